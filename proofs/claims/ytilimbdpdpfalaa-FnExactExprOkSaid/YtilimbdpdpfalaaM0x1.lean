import Derived.Test.YtilimbdpdpfalaaM01x11
/- Chapter 3: what a node has, of its kind. -/
namespace Go.Proofs.Ytilimbdpdpfalaa
set_option maxRecDepth 20000
open Go.RowKit Go.Am
set_option linter.unusedSimpArgs false
attribute [local irreducible] aPlan aGet aIf aLoop aCall RetB NextB CallB CallG aCut aSet aAppend

def lsP (x : Nd) : Prop := ((x.op = 7 ∨ x.op = 11) → (x.l.length : Int) = 1) ∧ (x.op = 10 → (x.l.length : Int) = 3) ∧ (x.op ≠ 7 ∧ x.op ≠ 11 ∧ x.op ≠ 10 ∧ x.op ≠ 8 ∧ x.op ≠ 9 → (x.l.length : Int) = 0)
instance (x : Nd) : Decidable (lsP x) := by unfold lsP; infer_instance
def pcN (op : Int) : Int := if op = 0 ∨ op = 1 then 0 else if 6 ≤ op ∧ op ≤ 10 then 1 else 2
theorem pcN_0 {op : Int} (h : op = 0 ∨ op = 1) : pcN op = 0 := if_pos h
theorem pcN_1 {op : Int} (h : 6 ≤ op ∧ op ≤ 10) : pcN op = 1 := by unfold pcN; rw [if_neg (by omega), if_pos h]
theorem pcN_2 {op : Int} (h : ¬ (op = 0 ∨ op = 1)) (h' : ¬ (6 ≤ op ∧ op ≤ 10)) : pcN op = 2 := by unfold pcN; rw [if_neg h, if_neg h']
theorem pcN_cases (op : Int) : (pcN op = 0 ∧ (op = 0 ∨ op = 1)) ∨ (pcN op = 1 ∧ (6 ≤ op ∧ op ≤ 10)) ∨ (pcN op = 2 ∧ ¬ (op = 0 ∨ op = 1) ∧ ¬ (6 ≤ op ∧ op ≤ 10)) := by
  by_cases h : op = 0 ∨ op = 1
  · exact .inl ⟨pcN_0 h, h⟩
  · by_cases h' : 6 ≤ op ∧ op ≤ 10
    · exact .inr (.inl ⟨pcN_1 h', h'⟩)
    · exact .inr (.inr ⟨pcN_2 h h', h, h'⟩)
def formP (x : Nd) (k n : Int) : Prop := (0 ≤ x.op ∧ x.op ≤ 12) ∧ lsP x ∧ ((x.op ≤ 1 ∨ (6 ≤ x.op ∧ x.op ≤ 10)) → x.b = 0) ∧ (x.op = 0 → 0 ≤ x.a ∧ x.a < n) ∧ (x.op = 1 → -9 ≤ x.a ∧ x.a ≤ 9) ∧ (2 ≤ x.op → 0 ≤ x.a ∧ x.a < k) ∧ (((2 ≤ x.op ∧ x.op ≤ 5) ∨ 11 ≤ x.op) → 0 ≤ x.b ∧ x.b < k)
instance (x : Nd) (k n : Int) : Decidable (formP x k n) := by unfold formP; infer_instance

theorem listOk_sound : Sound Try.prog 145 (fnS (ι := Nat × Nd) (fun | (c, x) => [.agg [.int .i64 x.op, .int .i64 x.a, .int .i64 x.b, .sl c x.l.length (x.l.map (.int .i64))]]) (fun _ => True) (fun | (_, x) => .bool (decide (lsP x)))) := by
  refine sound_of Try.func145 rfl (enters_of Try.func145 (by kernel_rfl) (by kernel_rfl)) ?_
  rintro ⟨c, x⟩ -
  conv => whnf
  repeat' (first
    | (refine fun (_ : _ ≤ maxLen) => ?_; conv => whnf)
    | (refine aGet_in rfl ?_; conv => whnf)
    | (refine And.intro rfl (And.intro (List.cons_ne_nil _ _) ?_); conv => whnf)
    | (refine aIf_dec (fun _ => ?_) (fun _ => ?_) <;> conv => whnf))
  all_goals refine retS rfl (congrArg AV.bool (Bool.eq_iff_iff.2 ?_))
  all_goals simp only [decide_eq_true_eq, beq_iff_eq, bne_iff_ne, ne_eq, true_iff, false_iff, Bool.false_eq_true]
  all_goals (try unfold lsP)
  all_goals (try unfold lsP)
  all_goals omega
theorem listOk_call {c : Nat} {x : Nd} {env : List AV} {rows : List Row} {ctr low : Nat} {k : AV → St → Prop} (hpre : True) (h : k (.bool (decide (lsP x))) ⟨env, rows, ctr + 1, low⟩) :
    CallB Try.prog 145 ⟨env, rows, ctr, low⟩ [.agg [.int .i64 x.op, .int .i64 x.a, .int .i64 x.b, .sl c x.l.length (x.l.map (.int .i64))]] k := callS_in listOk_sound (c, x) hpre rfl h
theorem partCount_sound : Sound Try.prog 133 (fnS (ι := Int) (fun op => [.int .i64 op]) (fun _ => True) (fun op => .int .i64 (pcN op))) := by
  refine sound_of Try.func133 rfl (enters_of Try.func133 (by kernel_rfl) (by kernel_rfl)) ?_
  intro (op : Int) _
  have h := pcN_cases op
  conv => whnf
  repeat' (first
    | (refine aIf_dec (fun _ => ?_) (fun _ => ?_) <;> conv => whnf))
  all_goals exact retS rfl (int_eq (by omega))
theorem partCount_call {op : Int} {env : List AV} {rows : List Row} {ctr low : Nat} {k : AV → St → Prop} (hpre : True) (h : k (.int .i64 (pcN op)) ⟨env, rows, ctr + 1, low⟩) :
    CallB Try.prog 133 ⟨env, rows, ctr, low⟩ [.int .i64 op] k := callS_in partCount_sound op hpre rfl h
theorem partsOf_sound : Sound Try.prog 89 (fnR (ι := Nat × Nd) 3 1 (fun | (c, x) => [.agg [.int .i64 x.op, .int .i64 x.a, .int .i64 x.b, .sl c x.l.length (x.l.map (.int .i64))]]) (fun _ => True) (fun | (_, x) => (pcN x.op).toNat) (fun | (_, x) => ([x.a, x.b] : List Int).map (.int .i64))) := by
  refine sound_of Try.func89 rfl (enters_of Try.func89 (by kernel_rfl) (by kernel_rfl)) ?_
  rintro ⟨c, x⟩ -
  have h := pcN_cases x.op
  conv => whnf
  repeat' (first
    | (refine aGet_in rfl ?_; conv => whnf)
    | (refine And.intro (by omega) ?_; conv => whnf)
    | (refine And.intro rfl (And.intro (List.cons_ne_nil _ _) ?_); conv => whnf)
    | (refine callG_t ?_; conv => whnf)
    | (refine partCount_call trivial ?_; conv => whnf)
    | (refine And.intro (And.intro (by kernel_rfl) (And.intro rfl (Nat.le_of_ble_eq_true rfl))) ?_; conv => whnf))
  exact retR rfl rfl rfl rfl
theorem partsOf_call {c : Nat} {x : Nd} {env : List AV} {rows : List Row} {ctr low : Nat} {k : AV → St → Prop} (h : k (.ref rows.length ctr 0 (pcN x.op).toNat) ⟨env, rows ++ [⟨ctr, 3, 1, ([x.a, x.b] : List Int).map (.int .i64)⟩], ctr + 1, low⟩) :
    CallB Try.prog 89 ⟨env, rows, ctr, low⟩ [.agg [.int .i64 x.op, .int .i64 x.a, .int .i64 x.b, .sl c x.l.length (x.l.map (.int .i64))]] k := callR_in partsOf_sound (c, x) trivial (protL_ints _ _) h
set_option maxHeartbeats 4000000 in
theorem nodeOk_sound : Sound Try.prog 130 (fnS (ι := Nat × List (List Int) × List Nd × Nat) (fun | (c, xss, ns, k) => [.agg [.sl c xss.length (xss.map (slI c)), .sl c ns.length (ns.flatMap (ndC c))], .int .i64 k]) (fun | (_, _, ns, k) => k < ns.length) (fun | (_, xss, ns, k) => .bool (decide (formP (ns.getD k default) k xss.length)))) := by
  refine sound_of Try.func130 rfl (enters_of Try.func130 (by kernel_rfl) (by kernel_rfl)) ?_
  rintro ⟨c, xss, ns, k⟩ hpre
  have hk : k < ns.length := hpre
  have hmax : maxLen = 9223372036854775807 := rfl
  have hpc := pcN_cases (ns.getD k default).op
  clear hpre
  conv => whnf
  repeat' (first
    | (refine aIf_t ?_; conv => whnf)
    | (refine aIf_f ?_; conv => whnf)
    | (refine fun (_ : _ ≤ maxLen) => ?_; conv => whnf)
    | (refine aGet_in rfl ?_; conv => whnf)
    | (refine And.intro (by omega) ?_; conv => whnf)
    | (refine load_same ?_; conv => whnf)
    | (refine And.intro rfl (And.intro (List.cons_ne_nil _ _) ?_); conv => whnf)
    | (refine And.intro (Nat.le_of_ble_eq_true rfl) ?_; conv => whnf)
    | (refine callG_t ?_; conv => whnf)
    | (refine indexOk_call trivial ?_; conv => whnf)
    | (refine part_nd_n (by omega) ?_; conv => whnf)
    | (refine listOk_call trivial ?_; conv => whnf)
    | (refine partCount_call trivial ?_; conv => whnf)
    | (refine partsOf_call ?_; conv => whnf)
    | (refine takeN_in ?_; conv => whnf)
    | (refine And.intro (pureL_ints _ _) ?_; conv => whnf)
    | (refine set_force ?_; conv => whnf)
    | (refine And.intro (by kernel_rfl) ?_; conv => whnf)
    | refine aIf_eqt ?_
    | refine aIf_eqf ?_
    | refine aIf_not ?_
    | (refine aIf_dec (fun _ => ?_) (fun _ => ?_) <;> conv => whnf))
  all_goals (first | (refine retS rfl (congrArg AV.bool (Bool.eq_iff_iff.2 ?_)); simp only [decide_eq_true_eq, beq_iff_eq, bne_iff_ne, ne_eq, true_iff, false_iff, Bool.false_eq_true]; unfold formP; (try unfold lsP at *); omega) | skip)
  all_goals
    rename_i g0 g1
    refine loop_u (ι := Nat) [false, true, false, false, false, false, false, false, false, false, false, false, false, false, false, false, false, false, false, false, false, false, false, false, false, false, false, false, false, false, false, false, false, false, false, false, false, false, false, false, false, false, false, false, false, false, false, false, false, false, false, false, false, false, false, false, true, true, true, false, false, false, false, false, false, false, false] (fun j => [(58, .int .i64 j)]) (fun _ => []) (fun j => (j : Int) ≤ pcN (ns.getD k default).op ∧ ∀ i, i < j → 0 ≤ ([(ns.getD k default).a, (ns.getD k default).b] : List Int).getD i 0 ∧ ([(ns.getD k default).a, (ns.getD k default).b] : List Int).getD i 0 < k) (fun j => 2 - j) (0) ⟨by omega, fun j hj => absurd hj (Nat.not_lt_zero _)⟩ ?_ ?_
    · conv => whnf
      repeat' (first
        | exact trivial
        | exact rfl
        | exact pureL_ints _ _
        | exact Or.inl (And.intro rfl rfl)
        | exact pureL_ii _ _
        | exact pureL_nd _ _
        | refine Or.inr ?_
        | refine And.intro ?_ ?_
        | exact Nat.le_of_ble_eq_true rfl)
    · rintro j ⟨hj, hall⟩
      have hj : (j : Int) ≤ pcN (ns.getD k default).op := hj
      have h0 : 0 < j → 0 ≤ (ns.getD k default).a ∧ (ns.getD k default).a < k := fun h => hall 0 h
      have h1 : 1 < j → 0 ≤ (ns.getD k default).b ∧ (ns.getD k default).b < k := fun h => hall 1 h
      have hlen : ([(ns.getD k default).a, (ns.getD k default).b] : List Int).length = 2 := rfl
      have e0 : j = 0 → ([(ns.getD k default).a, (ns.getD k default).b] : List Int).getD j 0 = (ns.getD k default).a := fun h => by rw [h]; rfl
      have e1 : j = 1 → ([(ns.getD k default).a, (ns.getD k default).b] : List Int).getD j 0 = (ns.getD k default).b := fun h => by rw [h]; rfl
      conv => whnf
      repeat' (first
        | (refine get_nat0 (by omega) ?_; conv => whnf)
        | (refine And.intro (by omega) ?_; conv => whnf)
        | (refine callG_t ?_; conv => whnf)
        | (refine indexOk_call trivial ?_; conv => whnf)
        | refine aIf_not ?_
        | (refine aIf_dec (fun _ => ?_) (fun _ => ?_) <;> conv => whnf))
      all_goals (first | (refine retS rfl (congrArg AV.bool (Bool.eq_iff_iff.2 ?_)); simp only [decide_eq_true_eq, beq_iff_eq, bne_iff_ne, ne_eq, true_iff, false_iff, Bool.false_eq_true]; unfold formP; (try unfold lsP at *); omega) | skip)
      rename_i hlt hin
      refine next_u (j + 1) (show 2 - (j + 1) < 2 - j by omega) ⟨by omega, fun i hi => ?_⟩ ?_
      · rcases Nat.lt_succ_iff_lt_or_eq.1 hi with h | rfl
        · exact hall i h
        · exact hin
      · conv => whnf
        repeat' (first
          | exact trivial
          | exact rfl
          | exact pureL_ints _ _
          | exact Or.inl (And.intro rfl rfl)
          | exact pureL_ii _ _
          | exact pureL_nd _ _
          | refine Or.inr ?_
          | refine And.intro ?_ ?_
          | exact Nat.le_of_ble_eq_true rfl
          | exact int_eq (by rw [IntWalk.i64_in _ (by omega)] <;> omega))
theorem nodeOk_call {c j : Nat} {xss : List (List Int)} {ns : List Nd} {env : List AV} {rows : List Row} {ctr low : Nat} {k : AV → St → Prop} (hpre : j < ns.length) (h : k (.bool (decide (formP (ns.getD j default) j xss.length))) ⟨env, rows, ctr + 1, low⟩) :
    CallB Try.prog 130 ⟨env, rows, ctr, low⟩ [.agg [.sl c xss.length (xss.map (slI c)), .sl c ns.length (ns.flatMap (ndC c))], .int .i64 j] k := callS_in nodeOk_sound (c, xss, ns, j) hpre rfl h

def insOk (xss : List (List Int)) : Prop := xss.length ≤ 3 ∧ ∀ j, j < xss.length → shapeOk (xss.getD j []) = true
instance (xss : List (List Int)) : Decidable (insOk xss) := by unfold insOk; infer_instance
theorem inputShapesOk_sound : Sound Try.prog 78 (fnS (ι := Nat × List (List Int)) (fun | (c, xss) => [.sl c xss.length (xss.map (slI c))]) (fun _ => True) (fun | (_, xss) => .bool (decide (insOk xss)))) := by
  refine sound_of Try.func78 rfl (enters_of Try.func78 (by kernel_rfl) (by kernel_rfl)) ?_
  rintro ⟨c, xss⟩ -
  have hmax : maxLen = 9223372036854775807 := rfl
  conv => whnf
  repeat' (first
    | (refine fun (_ : _ ≤ maxLen) => ?_; conv => whnf)
    | (refine aIf_dec (fun _ => ?_) (fun _ => ?_) <;> conv => whnf))
  · exact retS rfl (congrArg AV.bool (decide_eq_false (fun h => by have := h.1; omega)).symm)
  · refine loop_u (ι := Nat) [false, false, false, false, false, false, false, false, true, true, true, false, false, false, false, false, false, false] (fun j => [(10, .int .i64 j)]) (fun _ => []) (fun j => j ≤ xss.length ∧ ∀ i, i < j → shapeOk (xss.getD i []) = true) (fun j => xss.length - j) (0) ⟨by omega, fun j hj => absurd hj (Nat.not_lt_zero _)⟩ ?_ ?_
    · conv => whnf
      repeat' (first
        | exact trivial
        | exact rfl
        | exact pureL_ii _ _
        | refine And.intro ?_ ?_
        | exact Nat.le_of_ble_eq_true rfl)
    · rintro j ⟨hj, hall⟩
      have hj : j ≤ xss.length := hj
      conv => whnf
      repeat' (first
        | (refine And.intro (by omega) ?_; conv => whnf)
        | (refine callG_t ?_; conv => whnf)
        | (refine get_ii_n (by omega) ?_; conv => whnf)
        | (refine And.intro (pureL_ints _ _) ?_; conv => whnf)
        | (refine iShapeOk_call ?_; conv => whnf)
        | refine aIf_not ?_
        | (refine aIf_dec (fun _ => ?_) (fun _ => ?_) <;> conv => whnf)
        | (refine aIf_in (fun _ => ?_) (fun _ => ?_) <;> conv => whnf))
      · rename_i hlt hs
        refine next_u (j + 1) (show xss.length - (j + 1) < xss.length - j by omega) ⟨by omega, fun i hi => ?_⟩ ?_
        · rcases Nat.lt_succ_iff_lt_or_eq.1 hi with h | rfl
          · exact hall i h
          · exact hs
        · conv => whnf
          repeat' (first
            | exact trivial
            | exact rfl
            | exact pureL_ii _ _
            | refine And.intro ?_ ?_
            | exact Nat.le_of_ble_eq_true rfl
            | exact int_eq (by rw [IntWalk.i64_in _ (by omega)] <;> omega))
      · rename_i hlt hs
        exact retS rfl (congrArg AV.bool (decide_eq_false (fun h => by have := h.2 j (by omega); rw [this] at hs; cases hs)).symm)
      · exact retS rfl (congrArg AV.bool (decide_eq_true (⟨by omega, fun i hi => hall i (by omega)⟩ : insOk xss)).symm)
theorem inputShapesOk_call {c : Nat} {xss : List (List Int)} {env : List AV} {rows : List Row} {ctr low : Nat} {k : AV → St → Prop} (hpre : True) (h : k (.bool (decide (insOk xss))) ⟨env, rows, ctr + 1, low⟩) :
    CallB Try.prog 78 ⟨env, rows, ctr, low⟩ [.sl c xss.length (xss.map (slI c))] k := callS_in inputShapesOk_sound (c, xss) hpre rfl h
end Go.Proofs.Ytilimbdpdpfalaa

/- IndexAt. -/
namespace Go.Proofs.Ytilimbdpdpfalaa
set_option maxRecDepth 20000
open Go.RowKit Go.Am
attribute [local irreducible] aPlan aGet aIf aLoop aCall RetB NextB CallB CallG aCut aSet

def placeOk (xs ps : List Int) : Bool := shapeOk xs && (decide (ps.length = xs.length) && (List.range xs.length).all fun j => decide (0 ≤ ps.getD j 0 ∧ ps.getD j 0 < xs.getD j 0))
theorem placeOk_iff (xs ps : List Int) : placeOk xs ps = true ↔ shapeOk xs = true ∧ ps.length = xs.length ∧ ∀ j, j < xs.length → 0 ≤ ps.getD j 0 ∧ ps.getD j 0 < xs.getD j 0 := by
  unfold placeOk
  simp only [Bool.and_eq_true, decide_eq_true_iff, List.all_eq_true, List.mem_range]
theorem placeOk_f1 {xs ps : List Int} (h : shapeOk xs = false) : placeOk xs ps = false := by
  rw [← Bool.not_eq_true, placeOk_iff]; rintro ⟨h', -, -⟩; rw [h] at h'; cases h'
theorem placeOk_f2 {xs ps : List Int} (h : ps.length ≠ xs.length) : placeOk xs ps = false := by
  rw [← Bool.not_eq_true, placeOk_iff]; rintro ⟨-, h', -⟩; exact h h'
theorem placeOk_f3 {xs ps : List Int} {k : Nat} (hk : k < xs.length) (h : ¬ (0 ≤ ps.getD k 0 ∧ ps.getD k 0 < xs.getD k 0)) : placeOk xs ps = false := by
  rw [← Bool.not_eq_true, placeOk_iff]; rintro ⟨-, -, h'⟩; exact h (h' k hk)
theorem below_next {xs ps : List Int} {k : Nat} (h : ∀ j, j < k → 0 ≤ ps.getD j 0 ∧ ps.getD j 0 < xs.getD j 0) (h' : 0 ≤ ps.getD k 0 ∧ ps.getD k 0 < xs.getD k 0) : ∀ j, j < k + 1 → 0 ≤ ps.getD j 0 ∧ ps.getD j 0 < xs.getD j 0 := fun j hj => by
  rcases Nat.lt_succ_iff_lt_or_eq.1 hj with h1 | rfl
  · exact h j h1
  · exact h'

def sPlaceOk : CSpec := fnS (ι := Nat × List Int × Nat × List Int) (fun | (c, xs, d, ps) => [.sl c xs.length (xs.map (.int .i64)), .sl d ps.length (ps.map (.int .i64))]) (fun _ => True) (fun | (_, xs, _, ps) => .bool (placeOk xs ps))
set_option maxRecDepth 10000 in
theorem placeOk_sound : Sound Try.prog 138 sPlaceOk := by
  refine sound_of Try.func138 rfl (enters_of Try.func138 (by kernel_rfl) (by kernel_rfl)) ?_
  rintro ⟨c, xs, d, ps⟩ -
  conv => whnf
  repeat' (first
    | (refine aIf_t ?_; conv => whnf)
    | (refine aIf_f ?_; conv => whnf)
    | (refine fun (_ : _ ≤ maxLen) => ?_; conv => whnf)
    | (refine callG_t ?_; conv => whnf)
    | (refine And.intro (pureL_ints _ _) ?_; conv => whnf)
    | (refine iShapeOk_call ?_; conv => whnf)
    | refine aIf_eqf ?_
    | refine aIf_not ?_
    | (refine aIf_dec (fun _ => ?_) (fun _ => ?_) <;> conv => whnf)
    | (refine aIf_in (fun _ => ?_) (fun _ => ?_) <;> conv => whnf))
  · rename_i hs _ _ hl _
    have hl : ps.length = xs.length := by omega
    refine loop_in (ι := Nat) (fun k => ⟨[.sl c xs.length (xs.map (.int .i64)), .sl d ps.length (ps.map (.int .i64)), .un, .un, .bool false, .un, .un, .un, .un, .un, .un, .un, .un, .un, .un, .un, .un, .sl c xs.length (xs.map (.int .i64)), .int .i64 xs.length, .int .i64 k, .un, .un, .un, .un, .un, .un, .un, .un, .un, .un, .un, .un, .un, .un, .un, .un, .un, .un], [], 2, 0⟩)
      (fun k => k ≤ xs.length ∧ ∀ j, j < k → 0 ≤ ps.getD j 0 ∧ ps.getD j 0 < xs.getD j 0) (fun k => xs.length - k) 0 ⟨Nat.zero_le _, fun j hj => by omega⟩ ?_ ?_
    · repeat' (first
        | exact trivial
        | exact rfl
        | exact pureL_ints _ _
        | refine And.intro ?_ ?_
        | exact Nat.le_of_ble_eq_true rfl)
    · rintro k ⟨hk, hall⟩
      conv => whnf
      repeat' (first
        | (refine aIf_t ?_; conv => whnf)
        | (refine aIf_f ?_; conv => whnf)
        | (refine get_nat (by omega) ?_; conv => whnf)
        | (refine And.intro (by omega) ?_; conv => whnf)
        | refine aIf_eqf ?_
        | (refine aIf_dec (fun _ => ?_) (fun _ => ?_) <;> conv => whnf))
      · exact retS rfl (congrArg AV.bool (placeOk_f3 (k := k) (by omega) (by omega)).symm)
      · exact retS rfl (congrArg AV.bool (placeOk_f3 (k := k) (by omega) (by omega)).symm)
      · refine next_in (k + 1) (show xs.length - (k + 1) < xs.length - k by omega) ⟨by omega, below_next hall (by omega)⟩ ?_
        have hmax : maxLen = 9223372036854775807 := rfl
        repeat' (first
          | exact trivial
          | exact rfl
          | exact pureL_ints _ _
          | refine And.intro ?_ ?_
          | exact Nat.le_of_ble_eq_true rfl
          | exact int_eq (by rw [IntWalk.i64_in _ (by omega)] <;> omega))
      · exact retS rfl (congrArg AV.bool (by symm; rw [placeOk_iff]; exact ⟨hs, hl, fun j hj => hall j (by omega)⟩))
  · rename_i hl
    have hl : ps.length ≠ xs.length := by omega
    exact retS rfl (congrArg AV.bool (placeOk_f2 hl).symm)
  · rename_i h
    exact retS rfl (congrArg AV.bool (placeOk_f1 h).symm)
theorem placeOk_call {c d : Nat} {xs ps : List Int} {env : List AV} {rows : List Row} {ctr low : Nat} {k : AV → St → Prop} (h : k (.bool (placeOk xs ps)) ⟨env, rows, ctr + 1, low⟩) :
    CallB Try.prog 138 ⟨env, rows, ctr, low⟩ [.sl c xs.length (xs.map (.int .i64)), .sl d ps.length (ps.map (.int .i64))] k := callS_in placeOk_sound (c, xs, d, ps) trivial rfl h

/-- The count of cells ahead, as the machine reckons it. -/
def idxTo (xs ps : List Int) : Nat → Int
  | 0 => 0
  | k + 1 => IntKind.i64.wrap (IntKind.i64.wrap (idxTo xs ps k * xs.getD k 0) + ps.getD k 0)
def indexAt (xs ps : List Int) : Int := if placeOk xs ps = true then idxTo xs ps xs.length else -1

set_option maxRecDepth 10000 in
theorem l1Index_sound : Sound Try.prog 137 (fnS (ι := Nat × List Int × Nat × List Int) (fun | (c, xs, d, ps) => [.sl c xs.length (xs.map (.int .i64)), .sl d ps.length (ps.map (.int .i64))]) (fun | (_, xs, _, ps) => ps.length = xs.length) (fun | (_, xs, _, ps) => .int .i64 (idxTo xs ps xs.length))) := by
  refine sound_of Try.func137 rfl (enters_of Try.func137 (by kernel_rfl) (by kernel_rfl)) ?_
  rintro ⟨c, xs, d, ps⟩ hl
  have hl : ps.length = xs.length := hl
  conv => whnf
  repeat' (first
    | (refine plan_in (id := 5) [0, 1, 2, 3, 4, 5, 6, 7, 8, 9, 10, 11] (by kernel_rfl) (by kernel_rfl) ?_; conv => whnf))
  refine loop_in (ι := Nat) (fun k => ⟨[.sl c xs.length (xs.map (.int .i64)), .sl d ps.length (ps.map (.int .i64)), .un, .un, .un, .int .i64 (idxTo xs ps k), .int .i64 k, .un, .un, .un, .un, .un, .un, .un, .un, .un, .un, .un, .un, .un, .un, .un, .un, .un, .un], [], 1, 0⟩)
    (fun k => k ≤ xs.length) (fun k => xs.length - k) 0 (Nat.zero_le _) ?_ ?_
  · repeat' (first
      | exact trivial
      | exact rfl
      | exact pureL_ints _ _
      | refine And.intro ?_ ?_
      | exact Nat.le_of_ble_eq_true rfl)
  · intro k hk
    have hk : k ≤ xs.length := hk
    conv => whnf
    repeat' (first
      | (refine plan_in (id := 5) [0, 1, 2, 3, 4, 5, 6, 7, 8, 9, 10, 11] (by kernel_rfl) (by kernel_rfl) ?_; conv => whnf)
      | (refine fun (_ : _ ≤ maxLen) => ?_; conv => whnf)
      | (refine get_nat (by omega) ?_; conv => whnf)
      | (refine And.intro (by omega) ?_; conv => whnf)
      | (refine aIf_dec (fun _ => ?_) (fun _ => ?_) <;> conv => whnf))
    · refine next_in (k + 1) (show xs.length - (k + 1) < xs.length - k by omega) (by omega) ?_
      have hmax : maxLen = 9223372036854775807 := rfl
      repeat' (first
        | exact trivial
        | exact rfl
        | exact pureL_ints _ _
        | refine And.intro ?_ ?_
        | exact Nat.le_of_ble_eq_true rfl
        | exact int_eq (by rw [IntWalk.i64_in _ (by omega)] <;> omega))
    · have e : k = xs.length := by omega
      subst e
      exact retS rfl rfl
theorem l1Index_call {c d : Nat} {xs ps : List Int} {env : List AV} {rows : List Row} {ctr low : Nat} {k : AV → St → Prop} (hl : ps.length = xs.length) (h : k (.int .i64 (idxTo xs ps xs.length)) ⟨env, rows, ctr + 1, low⟩) :
    CallB Try.prog 137 ⟨env, rows, ctr, low⟩ [.sl c xs.length (xs.map (.int .i64)), .sl d ps.length (ps.map (.int .i64))] k := callS_in l1Index_sound (c, xs, d, ps) hl rfl h

def sIndexAt : CSpec := fnS (ι := Nat × List Int × Nat × List Int) (fun | (c, xs, d, ps) => [.sl c xs.length (xs.map (.int .i64)), .sl d ps.length (ps.map (.int .i64))]) (fun _ => True) (fun | (_, xs, _, ps) => .int .i64 (indexAt xs ps))
set_option maxRecDepth 10000 in
theorem iIndexAt_sound : Sound Try.prog 105 sIndexAt := by
  refine sound_of Try.func105 rfl (enters_of Try.func105 (by kernel_rfl) (by kernel_rfl)) ?_
  rintro ⟨c, xs, d, ps⟩ -
  conv => whnf
  repeat' (first
    | (refine fun (_ : _ ≤ maxLen) => ?_; conv => whnf)
    | (refine callG_t ?_; conv => whnf)
    | (refine And.intro (pureL_ints _ _) ?_; conv => whnf)
    | (refine placeOk_call ?_; conv => whnf)
    | refine aIf_not ?_
    | (refine aIf_in (fun _ => ?_) (fun _ => ?_) <;> conv => whnf))
  · rename_i h _
    have hl := ((placeOk_iff xs ps).1 h).2.1
    refine loop_in (ι := Nat) (fun k => ⟨[.sl c xs.length (xs.map (.int .i64)), .sl d ps.length (ps.map (.int .i64)), .un, .un, .un, .int .i64 (idxTo xs ps k), .un, .un, .un, .un, .un, .un, .sl c xs.length (xs.map (.int .i64)), .int .i64 xs.length, .int .i64 k, .un, .un, .un, .un, .un, .un, .un, .un, .un, .un, .un, .un, .un, .un], [], 2, 0⟩)
      (fun k => k ≤ xs.length) (fun k => xs.length - k) 0 (Nat.zero_le _) ?_ ?_
    · repeat' (first
        | exact trivial
        | exact rfl
        | exact pureL_ints _ _
        | refine And.intro ?_ ?_
        | exact Nat.le_of_ble_eq_true rfl)
    · intro k hk
      have hk : k ≤ xs.length := hk
      conv => whnf
      repeat' (first
        | (refine get_nat (by omega) ?_; conv => whnf)
        | (refine And.intro (by omega) ?_; conv => whnf)
        | (refine aIf_dec (fun _ => ?_) (fun _ => ?_) <;> conv => whnf))
      · refine next_in (k + 1) (show xs.length - (k + 1) < xs.length - k by omega) (by omega) ?_
        have hmax : maxLen = 9223372036854775807 := rfl
        repeat' (first
          | exact trivial
          | exact rfl
          | exact pureL_ints _ _
          | refine And.intro ?_ ?_
          | exact Nat.le_of_ble_eq_true rfl
          | exact int_eq (by rw [IntWalk.i64_in _ (by omega)] <;> omega))
      · have e : k = xs.length := by omega
        subst e
        exact retS rfl (int_eq (by rw [indexAt, if_pos h]))
  · rename_i h
    exact retS rfl (int_eq (by rw [indexAt, if_neg (by rw [h]; decide)]))
theorem iIndexAt_call {c d : Nat} {xs ps : List Int} {env : List AV} {rows : List Row} {ctr low : Nat} {k : AV → St → Prop} (h : k (.int .i64 (indexAt xs ps)) ⟨env, rows, ctr + 1, low⟩) :
    CallB Try.prog 105 ⟨env, rows, ctr, low⟩ [.sl c xs.length (xs.map (.int .i64)), .sl d ps.length (ps.map (.int .i64))] k := callS_in iIndexAt_sound (c, xs, d, ps) trivial rfl h

end Go.Proofs.Ytilimbdpdpfalaa

/- PlaceAt. -/
namespace Go.Proofs.Ytilimbdpdpfalaa
set_option maxRecDepth 20000
open Go.RowKit Go.Am
attribute [local irreducible] aPlan aGet aIf aLoop aCall RetB NextB CallB CallG aCut aSet aAppend

theorem cnt_bound {xs : List Int} (h : shapeOk xs = true) : ∀ k, k ≤ xs.length → 1 ≤ cntTo xs k ∧ cntTo xs k ≤ 4 ^ k
  | 0, _ => ⟨Int.le_refl _, Int.le_refl _⟩
  | k + 1, hk => by
    obtain ⟨h1, h2⟩ := cnt_bound h k (by omega)
    obtain ⟨h3, h4⟩ := (shapeOk_iff xs).1 h
    obtain ⟨h5, h6⟩ := (okSize_iff _).1 (h4 k (by omega))
    have hp : (4 : Int) ^ k ≤ 16 := by
      have : k ≤ 2 := by omega
      rcases k with _ | _ | _ | k
      · decide
      · decide
      · decide
      · omega
    have a1 : 1 * 1 ≤ cntTo xs k * xs.getD k 0 := Int.mul_le_mul h1 h5 (by decide) (by omega)
    have a2 : cntTo xs k * xs.getD k 0 ≤ 4 ^ k * 4 := Int.mul_le_mul h2 h6 (by omega) (by omega)
    have a3 : cntTo xs (k + 1) = cntTo xs k * xs.getD k 0 := by
      show IntKind.i64.wrap _ = _
      exact IntWalk.i64_in _ (by omega)
    rw [a3, Int.pow_succ]
    exact ⟨by omega, a2⟩

/-- The quotients from the last axis on. -/
def quoT (zs : List Int) (i : Int) : Nat → Int
  | 0 => i
  | m + 1 => IntKind.i64.wrap ((quoT zs i m).tdiv (zs.getD (zs.length - 1 - m) 0))
theorem quoT_next {zs : List Int} {i : Int} {q : Nat} (h : q + 1 ≤ zs.length) : quoT zs i (zs.length - q) = IntKind.i64.wrap ((quoT zs i (zs.length - (q + 1))).tdiv (zs.getD q 0)) := by
  have e : zs.length - q = (zs.length - (q + 1)) + 1 := by omega
  rw [e, quoT]
  congr 3; omega
def places (zs : List Int) (i : Int) : List Int := (List.range zs.length).map fun j => (quoT zs i (zs.length - 1 - j)).tmod (zs.getD j 0)
theorem places_length (zs : List Int) (i : Int) : (places zs i).length = zs.length := by simp [places]
theorem places_getD {zs : List Int} {i : Int} {j : Nat} (h : j < zs.length) : (places zs i).getD j 0 = (quoT zs i (zs.length - 1 - j)).tmod (zs.getD j 0) := by
  simp [places, List.getD, List.getElem?_map, List.getElem?_range h]
def plInv (zs : List Int) (i : Int) (x : Nat × List Int) : Prop := x.1 ≤ zs.length ∧ x.2.length = zs.length ∧ ∀ j, x.1 ≤ j → j < zs.length → x.2.getD j 0 = (quoT zs i (zs.length - 1 - j)).tmod (zs.getD j 0)
theorem plInv_0 (zs : List Int) (i : Int) : plInv zs i (zs.length, List.replicate zs.length 0) := ⟨Nat.le_refl _, by simp, fun j h1 h2 => by omega⟩
theorem plInv_next {zs : List Int} {i : Int} {q : Nat} {ws : List Int} (h : plInv zs i (q + 1, ws)) : plInv zs i (q, ws.set q ((quoT zs i (zs.length - (q + 1))).tmod (zs.getD q 0))) := by
  obtain ⟨h1, h2, h3⟩ := h
  have h1 : q + 1 ≤ zs.length := h1
  have h2 : ws.length = zs.length := h2
  have h3 : ∀ j, q + 1 ≤ j → j < zs.length → ws.getD j 0 = (quoT zs i (zs.length - 1 - j)).tmod (zs.getD j 0) := h3
  refine ⟨(show q ≤ zs.length by omega), by simpa using h2, fun j hj hl => ?_⟩
  show (ws.set q ((quoT zs i (zs.length - (q + 1))).tmod (zs.getD q 0))).getD j 0 = _
  rw [getD_set (by omega)]
  split
  · rename_i e; subst e
    congr 2; omega
  · have hj : q ≤ j := hj
    exact h3 j (by omega) hl
theorem plInv_end {zs ws : List Int} {i : Int} (h : plInv zs i (0, ws)) : ws = places zs i := getD_ext (by rw [places_length]; exact h.2.1) fun j hj => by
  rw [places_length] at hj
  rw [places_getD hj]; exact h.2.2 j (Nat.zero_le _) hj

set_option maxRecDepth 10000 in
theorem l1Place_sound : Sound Try.prog 136 (fnL (ι := Nat × List Int × Int) 3 (fun | (c, zs, i) => [.sl c zs.length (zs.map (.int .i64)), .int .i64 i]) (fun | (_, zs, _) => shapeOk zs = true) (fun | (_, zs, i) => places zs i)) := by
  refine sound_of Try.func136 rfl (enters_of Try.func136 (by kernel_rfl) (by kernel_rfl)) ?_
  rintro ⟨c, zs, i⟩ hpre
  have h3 := (shapeOk_iff zs).1 hpre
  conv => whnf
  repeat' (first
    | (refine fun (_ : _ ≤ maxLen) => ?_; conv => whnf)
    | (refine And.intro (And.intro (Int.le_refl _) (And.intro (by kernel_rfl) (And.intro rfl (by kernel_rfl)))) (And.intro (And.intro (by omega) (And.intro (bytes_le (b := 8) rfl (by omega)) (by omega))) ?_); conv => whnf))
  refine loop_in (ι := Nat × List Int) (fun | (q, ws) => ⟨[.sl c zs.length (zs.map (.int .i64)), .int .i64 (quoT zs i (zs.length - q)), .un, .un, .un, .ref 1 2 0 zs.length, .int .i64 (q - 1), .un, .un, .un, .un, .un, .un, .un, .un, .un, .un, .un, .un, .un, .un, .un, .un, .un, .un, .un, .un, .un, .un, .un, .un, .un, .un], [⟨1, 3, 1, []⟩, ⟨2, 3, 1, ws.map (.int .i64)⟩], 3, 0⟩)
    (plInv zs i) (fun x => x.1) (zs.length, List.replicate zs.length 0) (plInv_0 zs i) ?_ ?_
  · have e0 : i = quoT zs i (zs.length - zs.length) := by rw [Nat.sub_self]; rfl
    repeat' (first
      | exact trivial
      | exact rfl
      | exact pureL_ints _ _
      | exact Or.inl (And.intro rfl rfl)
      | exact le_ints (rep_ints _ _)
      | refine And.intro ?_ ?_
      | exact Nat.le_of_ble_eq_true rfl
      | exact int_eq (by assumption)
      | exact int_eq (by rw [IntWalk.i64_in _ (by omega)] <;> omega))
  · rintro ⟨q, ws⟩ hi
    have hq : q ≤ zs.length := hi.1
    have hl : ws.length = zs.length := hi.2.1
    by_cases h0 : q = 0
    · subst h0
      conv => whnf
      repeat' (first
        | (refine aIf_f ?_; conv => whnf))
      all_goals (first
        | exact (by have e := plInv_end hi; subst e; exact retL rfl rfl rfl (places_length zs i).symm)
        | (exfalso; omega))
    · obtain ⟨q, rfl⟩ : ∃ q', q = q' + 1 := ⟨q - 1, by omega⟩
      have e1 : (((q + 1 : Nat) : Int) - 1).toNat = q := by omega
      have hz := (okSize_iff _).1 (h3.2 q (by omega))
      have hz' : 1 ≤ zs.getD (((q + 1 : Nat) : Int) - 1).toNat 0 ∧ zs.getD (((q + 1 : Nat) : Int) - 1).toNat 0 ≤ 4 := by rw [e1]; exact hz
      have e2 := quoT_next (zs := zs) (i := i) hq
      conv => whnf
      repeat' (first
        | (refine get_int (by omega) ?_; conv => whnf)
        | (refine And.intro (by omega) ?_; conv => whnf)
        | (refine And.intro rfl (And.intro rfl (And.intro (by first | omega | (rw [List.length_map]; omega)) ?_)); conv => whnf)
        | (refine set_int ?_ (by omega); conv => whnf)
        | (refine aIf_dec (fun _ => ?_) (fun _ => ?_) <;> conv => whnf))
      · rw [e1]
        refine next_in (q, ws.set q ((quoT zs i (zs.length - (q + 1))).tmod (zs.getD q 0))) (Nat.lt_succ_self _) (plInv_next hi) ?_
        rw [← e2]
        repeat' (first
          | exact trivial
          | exact rfl
          | exact pureL_ints _ _
          | exact Or.inl (And.intro rfl rfl)
          | exact le_ints rfl
          | refine And.intro ?_ ?_
          | exact Nat.le_of_ble_eq_true rfl
          | exact int_eq (by rw [IntWalk.i64_in _ (by omega)] <;> omega))
      all_goals (exfalso; omega)

theorem l1Place_call {c : Nat} {zs : List Int} {i : Int} {env : List AV} {rows : List Row} {ctr low : Nat} {k : AV → St → Prop} (hpre : shapeOk zs = true) (hk : k (.ref rows.length ctr 0 (places zs i).length) ⟨env, rows ++ [⟨ctr, 3, 1, (places zs i).map (.int .i64)⟩], ctr + 1, low⟩) :
    CallB Try.prog 136 ⟨env, rows, ctr, low⟩ [.sl c zs.length (zs.map (.int .i64)), .int .i64 i] k := callL_in l1Place_sound (c, zs, i) hpre hk

/-- PlaceAt: a shape, and an index of it. -/
def paOk (zs : List Int) (i : Int) : Bool := shapeOk zs && decide (0 ≤ i ∧ i < cntTo zs zs.length)
def paL (zs : List Int) (i : Int) : List Int := if paOk zs i = true then places zs i else []
theorem pa_t {zs : List Int} {i : Int} (h : shapeOk zs = true) (h' : 0 ≤ i ∧ i < cntTo zs zs.length) : paL zs i = places zs i ∧ true = paOk zs i := by
  have e : paOk zs i = true := by unfold paOk; rw [h]; simpa using h'
  exact ⟨if_pos e, e.symm⟩
theorem pa_f {zs : List Int} {i : Int} (h : ¬ (shapeOk zs = true ∧ 0 ≤ i ∧ i < cntTo zs zs.length)) : paL zs i = [] ∧ false = paOk zs i := by
  have e : paOk zs i = false := by
    rw [← Bool.not_eq_true]; intro h'; apply h
    unfold paOk at h'; simpa [Bool.and_eq_true] using h'
  exact ⟨if_neg (by rw [e]; decide), e.symm⟩
theorem pa_le (zs : List Int) (i : Int) : (paL zs i).length ≤ zs.length := by
  unfold paL; split
  · exact Nat.le_of_eq (places_length _ _)
  · exact Nat.zero_le _
def sPlaceAt : CSpec := fnLB (ι := Nat × List Int × Int) 3 (fun | (c, zs, i) => [.sl c zs.length (zs.map (.int .i64)), .int .i64 i]) (fun | (_, zs, _) => zs.length ≤ 1048576) (fun | (_, zs, i) => paL zs i) (fun | (_, zs, i) => paOk zs i)
theorem pa_end {env : List AV} {rows : List Row} {ctr τ ver : Nat} {zs zs' : List Int} {i : Int} {b : Bool} {r : Row} {n : Nat} (e1 : paL zs i = zs' ∧ b = paOk zs i) (hr : rows[τ]? = some r) (hv : r.ver = ver) (e : r = ⟨ver, 3, 1, zs'.map (.int .i64)⟩) (hn : n = zs'.length) :
    RetB ⟨env, rows, ctr, 0⟩ [] (fun r ic news => r = .tup [.ref 0 0 0 (paL zs i).length, .bool (paOk zs i)] ∧ ic = [] ∧ news = [⟨0, 3, 1, (paL zs i).map (.int .i64)⟩]) (.tup [.ref τ ver 0 n, .bool b]) := by
  rw [e1.1]; exact retLB hr hv e hn e1.2

theorem countersAt_sound : Sound Try.prog 104 (fnL (ι := Nat × List Int × Int) 3 (fun | (c, zs, i) => [.sl c zs.length (zs.map (.int .i64)), .int .i64 i]) (fun | (_, zs, _) => zs.length ≤ 1048576 ∧ ∀ j, j < zs.length → 1 ≤ zs.getD j 0 ∧ zs.getD j 0 ≤ 4) (fun | (_, zs, i) => places zs i)) := by
  refine sound_of Try.func104 rfl (enters_of Try.func104 (by kernel_rfl) (by kernel_rfl)) ?_
  rintro ⟨c, zs, i⟩ hpre
  obtain ⟨hpl, hin⟩ : zs.length ≤ 1048576 ∧ ∀ j, j < zs.length → 1 ≤ zs.getD j 0 ∧ zs.getD j 0 ≤ 4 := hpre
  have hmax : maxLen = 9223372036854775807 := rfl
  conv => whnf
  repeat' (first
    | (refine fun (_ : _ ≤ maxLen) => ?_; conv => whnf)
    | (refine And.intro (And.intro (Int.le_refl _) (And.intro (by kernel_rfl) (And.intro rfl (by kernel_rfl)))) (And.intro (And.intro (by omega) (And.intro (bytes_le (b := 8) rfl (by omega)) (by omega))) ?_); conv => whnf))
  refine loop_u (ι := Nat × List Int) [true, true, false, false, false, true, true, false, false, false, false, false, false, false, false, false, false, false, false, false, false, false, false, false, false, false, false, false, false, false, false, false, false] (fun | (q, _) => [(1, .int .i64 (quoT zs i (zs.length - q))), (6, .int .i64 (q - 1))]) (fun | (_, ws) => [(1, ws.map (.int .i64))]) (plInv zs i) (fun x => x.1) ((zs.length, List.replicate zs.length 0)) (plInv_0 zs i) ?_ ?_
  · have e0 : i = quoT zs i (zs.length - zs.length) := by rw [Nat.sub_self]; rfl
    conv => whnf
    repeat' (first
      | exact trivial
      | exact rfl
      | exact pureL_ints _ _
      | exact Or.inl (And.intro rfl rfl)
      | exact le_ints (rep_ints _ _)
      | refine And.intro ?_ ?_
      | exact Nat.le_of_ble_eq_true rfl
      | exact int_eq (by assumption)
      | exact int_eq (by rw [IntWalk.i64_in _ (by omega)] <;> omega))
  · rintro ⟨q, ws⟩ hi
    have hq : q ≤ zs.length := hi.1
    have hl : ws.length = zs.length := hi.2.1
    by_cases h0 : q = 0
    · subst h0
      conv => whnf
      repeat' (first
        | (refine aIf_f ?_; conv => whnf))
      all_goals (first
        | exact (by have e := plInv_end hi; subst e; exact retL rfl rfl rfl (places_length zs i).symm)
        | (exfalso; omega))
    · obtain ⟨q, rfl⟩ : ∃ q', q = q' + 1 := ⟨q - 1, by omega⟩
      have e1 : (((q + 1 : Nat) : Int) - 1).toNat = q := by omega
      have hz := hin q (by omega)
      have hz' : 1 ≤ zs.getD (((q + 1 : Nat) : Int) - 1).toNat 0 ∧ zs.getD (((q + 1 : Nat) : Int) - 1).toNat 0 ≤ 4 := by rw [e1]; exact hz
      have e2 := quoT_next (zs := zs) (i := i) hq
      conv => whnf
      repeat' (first
        | (refine get_int (by omega) ?_; conv => whnf)
        | (refine And.intro (by omega) ?_; conv => whnf)
        | (refine And.intro rfl (And.intro rfl (And.intro (by first | omega | (rw [List.length_map]; omega)) ?_)); conv => whnf)
        | (refine set_int ?_ (by omega); conv => whnf)
        | (refine aIf_dec (fun _ => ?_) (fun _ => ?_) <;> conv => whnf))
      · rw [e1]
        refine next_u (q, ws.set q ((quoT zs i (zs.length - (q + 1))).tmod (zs.getD q 0))) (Nat.lt_succ_self _) (plInv_next hi) ?_
        rw [← e2]
        conv => whnf
        repeat' (first
          | exact trivial
          | exact rfl
          | exact pureL_ints _ _
          | exact Or.inl (And.intro rfl rfl)
          | exact le_ints rfl
          | refine And.intro ?_ ?_
          | exact Nat.le_of_ble_eq_true rfl
          | exact int_eq (by rw [IntWalk.i64_in _ (by omega)] <;> omega))
      all_goals (exfalso; omega)
theorem countersAt_call {c : Nat} {zs : List Int} {i : Int} {env : List AV} {rows : List Row} {ctr low : Nat} {k : AV → St → Prop} (hpre : zs.length ≤ 1048576 ∧ ∀ j, j < zs.length → 1 ≤ zs.getD j 0 ∧ zs.getD j 0 ≤ 4) (h : k (.ref rows.length ctr 0 (places zs i).length) ⟨env, rows ++ [⟨ctr, 3, 1, (places zs i).map (.int .i64)⟩], ctr + 1, low⟩) :
    CallB Try.prog 104 ⟨env, rows, ctr, low⟩ [.sl c zs.length (zs.map (.int .i64)), .int .i64 i] k := callL_in countersAt_sound (c, zs, i) hpre h
set_option maxRecDepth 10000 in
theorem iPlaceAt_sound : Sound Try.prog 168 sPlaceAt := by
  refine sound_of Try.func168 rfl (enters_of Try.func168 (by kernel_rfl) (by kernel_rfl)) ?_
  rintro ⟨c, zs, i⟩ hpre
  have hpre : zs.length ≤ 1048576 := hpre
  have hcnt : shapeOk zs = true → countOf zs = cntTo zs zs.length := fun h => if_pos h
  have hcnt' : ¬ shapeOk zs = true → countOf zs = -1 := fun h => if_neg h
  by_cases h : shapeOk zs = true ∧ 0 ≤ i ∧ i < cntTo zs zs.length
  · obtain ⟨hs, hi'⟩ := h
    have hc := hcnt hs
    have hin : ∀ j, j < zs.length → 1 ≤ zs.getD j 0 ∧ zs.getD j 0 ≤ 4 := fun j hj => (okSize_iff _).1 (((shapeOk_iff zs).1 hs).2 j hj)
    conv => whnf
    repeat' (first
      | (refine aIf_t ?_; conv => whnf)
      | (refine aIf_f ?_; conv => whnf)
      | (refine callG_t ?_; conv => whnf)
      | (refine countersAt_call (by first | omega | assumption | (refine ⟨?_, ?_⟩ <;> first | assumption | omega) | (refine ⟨?_, ?_, ?_⟩ <;> first | assumption | omega)) ?_; conv => whnf)
      | (refine And.intro (pureL_ints _ _) ?_; conv => whnf)
      | (refine iCountOf_call ?_; conv => whnf)
      | refine aIf_eqf ?_
      | (refine aIf_dec (fun _ => ?_) (fun _ => ?_) <;> conv => whnf))
    all_goals (first | (exfalso; omega) | exact pa_end (pa_t hs hi') rfl rfl rfl rfl)
  · have hn : i < 0 ∨ countOf zs ≤ i := by
      by_cases hs : shapeOk zs = true
      · have := hcnt hs
        have h' : ¬ (0 ≤ i ∧ i < cntTo zs zs.length) := fun h' => h ⟨hs, h'⟩
        omega
      · have := hcnt' hs; omega
    conv => whnf
    repeat' (first
      | (refine aIf_t ?_; conv => whnf)
      | (refine aIf_f ?_; conv => whnf)
      | (refine And.intro (by omega) ?_; conv => whnf)
      | (refine callG_t ?_; conv => whnf)
      | (refine countersAt_call (by first | omega | assumption | (refine ⟨?_, ?_⟩ <;> first | assumption | omega) | (refine ⟨?_, ?_, ?_⟩ <;> first | assumption | omega)) ?_; conv => whnf)
      | (refine And.intro (pureL_ints _ _) ?_; conv => whnf)
      | (refine iCountOf_call ?_; conv => whnf)
      | refine aIf_eqf ?_
      | (refine aIf_dec (fun _ => ?_) (fun _ => ?_) <;> conv => whnf))
    all_goals (first | (exfalso; omega) | exact pa_end (pa_f h) rfl rfl rfl rfl)
theorem iPlaceAt_call {c : Nat} {zs : List Int} {i : Int} {env : List AV} {rows : List Row} {ctr low : Nat} {k : AV → St → Prop} (hpre : zs.length ≤ 1048576) (hk : k (.tup [.ref rows.length ctr 0 (paL zs i).length, .bool (paOk zs i)]) ⟨env, rows ++ [⟨ctr, 3, 1, (paL zs i).map (.int .i64)⟩], ctr + 1, low⟩) :
    CallB Try.prog 168 ⟨env, rows, ctr, low⟩ [.sl c zs.length (zs.map (.int .i64)), .int .i64 i] k := callLB_in iPlaceAt_sound (c, zs, i) hpre hk
end Go.Proofs.Ytilimbdpdpfalaa
