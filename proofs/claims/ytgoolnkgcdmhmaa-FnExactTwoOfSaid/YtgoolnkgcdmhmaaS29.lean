/- Chapter 2: TwoOf: two numbers; the program's two tensors. -/
import Derived.Test.YtgoolnkgcdmhmaaS21
import Derived.Test.YtgoolnkgcdmhmaaS13
namespace Go.Proofs.Ytgoolnkgcdmhmaa
open Go.RowKit Go.Am
attribute [local irreducible] aPlan aGet aIf aLoop aCall RetB NextB CallB CallG aCut aSet aAppend

/-- What comes of two numbers. -/
def two (op x y : Int) : Int := if op = 0 then IntKind.i64.wrap (x + y) else if op = 1 then IntKind.i64.wrap (x - y) else if op = 2 then IntKind.i64.wrap (x * y) else if x < y then y else x
theorem two_0 {op x y : Int} (h : op = 0) : two op x y = IntKind.i64.wrap (x + y) := if_pos h
theorem two_1 {op x y : Int} (h0 : ¬ op = 0) (h : op = 1) : two op x y = IntKind.i64.wrap (x - y) := by unfold two; rw [if_neg h0, if_pos h]
theorem two_2 {op x y : Int} (h0 : ¬ op = 0) (h1 : ¬ op = 1) (h : op = 2) : two op x y = IntKind.i64.wrap (x * y) := by unfold two; rw [if_neg h0, if_neg h1, if_pos h]
theorem two_y {op x y : Int} (h0 : ¬ op = 0) (h1 : ¬ op = 1) (h2 : ¬ op = 2) (h : x < y) : two op x y = y := by unfold two; rw [if_neg h0, if_neg h1, if_neg h2, if_pos h]
theorem two_x {op x y : Int} (h0 : ¬ op = 0) (h1 : ¬ op = 1) (h2 : ¬ op = 2) (h : ¬ x < y) : two op x y = x := by unfold two; rw [if_neg h0, if_neg h1, if_neg h2, if_neg h]
theorem two_x' {op x y : Int} (h0 : ¬ op = 0) (h1 : ¬ op = 1) (h2 : ¬ op = 2) (h : y < x) : two op x y = x := two_x h0 h1 h2 (by omega)
theorem two_y' {op x y : Int} (h0 : ¬ op = 0) (h1 : ¬ op = 1) (h2 : ¬ op = 2) (h : ¬ y < x) : two op x y = y := by
  by_cases h' : x < y
  · exact two_y h0 h1 h2 h'
  · rw [two_x h0 h1 h2 h']; omega
def sTwoN : CSpec := fnS (ι := Int × Int × Int) (fun | (op, x, y) => [.int .i64 op, .int .i64 x, .int .i64 y]) (fun _ => True) (fun | (op, x, y) => .int .i64 (two op x y))
set_option maxRecDepth 10000 in
theorem twoNums_sound : Sound Try.prog 69 sTwoN := by
  refine sound_of Try.func69 rfl (enters_of Try.func69 (by kernel_rfl) (by kernel_rfl)) ?_
  rintro ⟨op, x, y⟩ -
  conv => whnf
  repeat' (first
    | (refine aIf_t ?_; conv => whnf)
    | (refine aIf_f ?_; conv => whnf)
    | (refine fun (_ : _ ≤ maxLen) => ?_; conv => whnf)
    | (refine get_nat0 (by omega) ?_; conv => whnf)
    | (refine get_int0 (by omega) ?_; conv => whnf)
    | (refine get_nat (by omega) ?_; conv => whnf)
    | (refine get_int (by omega) ?_; conv => whnf)
    | (refine aGet_in rfl ?_; conv => whnf)
    | (refine And.intro (And.intro rfl (And.intro (by kernel_rfl) (And.intro rfl (by kernel_rfl)))) (And.intro (And.intro (by omega) (And.intro (bytes_le (b := 8) rfl (by omega)) (by omega))) ?_); conv => whnf)
    | (refine And.intro (by omega) ?_; conv => whnf)
    | (refine And.intro (by rw [List.length_map]; omega) ?_; conv => whnf)
    | (refine And.intro rfl (And.intro (List.cons_ne_nil _ _) ?_); conv => whnf)
    | (refine And.intro (Nat.le_of_ble_eq_true rfl) ?_; conv => whnf)
    | (refine callG_t ?_; conv => whnf)
    | (refine And.intro (pureL_ints _ _) ?_; conv => whnf)
    | (refine And.intro (pureL_take _ _ _) ?_; conv => whnf)
    | (refine And.intro (pureL_cut _ _ _ _) ?_; conv => whnf)
    | (refine cut_ints ?_; conv => whnf)
    | (refine cut_marks ?_; conv => whnf)
    | (refine cut_all rfl (scalL_ints _ _) ?_; conv => whnf)
    | (refine cut_all (by simp only [List.length_map]; omega) (scalL_ints _ _) ?_; conv => whnf)
    | (refine append_int rfl rfl (by first | rfl | (simp only [List.length_take, turned_length]; omega)) (by omega) (Nat.le_of_ble_eq_true rfl) ?_; conv => whnf)
    | (refine append_int3 rfl rfl rfl rfl (by omega) (Nat.le_of_ble_eq_true rfl) ?_; conv => whnf)
    | (refine And.intro rfl (And.intro rfl (And.intro (by first | omega | (rw [List.length_map]; omega)) ?_)); conv => whnf)
    | (refine set_nat ?_ (by omega); conv => whnf)
    | (refine set_int ?_ (by omega); conv => whnf)
    | (refine set_bool ?_ (by omega); conv => whnf)
    | (refine set_force ?_; conv => whnf)
    | (refine get_bool0 (by omega) ?_; conv => whnf)
    | (refine And.intro (And.intro rfl (And.intro (by kernel_rfl) (And.intro rfl (by kernel_rfl)))) (And.intro (And.intro (by omega) (And.intro (bytes_le (b := 1) rfl (by omega)) (by omega))) ?_); conv => whnf)
    | (refine And.intro (And.intro (by kernel_rfl) (And.intro rfl (Nat.le_of_ble_eq_true rfl))) ?_; conv => whnf)
    | (refine And.intro (And.intro (by kernel_rfl) (by kernel_rfl)) ?_; conv => whnf)
    | (refine And.intro (by kernel_rfl) ?_; conv => whnf)
    | (refine aIf_tt (by assumption) ?_; conv => whnf)
    | (refine aIf_ff (by assumption) ?_; conv => whnf)
    | refine aIf_eqt ?_
    | refine aIf_eqf ?_
    | refine aIf_not ?_
    | (refine aIf_bself ?_; conv => whnf)
    | (refine aIf_beself ?_; conv => whnf)
    | (refine aIf_iself ?_; conv => whnf)
    | (refine aIf_decself ?_; conv => whnf)
    | (refine aIf_dec (fun _ => ?_) (fun _ => ?_) <;> conv => whnf)
    | (refine aIf_beq (fun _ => ?_) (fun _ => ?_) <;> conv => whnf)
    | (refine aIf_bne (fun _ => ?_) (fun _ => ?_) <;> conv => whnf)
    | (refine aIf_bbne (fun _ => ?_) (fun _ => ?_) <;> conv => whnf)
    | (refine aIf_bbeq (fun _ => ?_) (fun _ => ?_) <;> conv => whnf)
    | (refine aIf_in (fun _ => ?_) (fun _ => ?_) <;> conv => whnf))
  all_goals (first
    | exact retS rfl (congrArg _ (two_0 (by assumption)).symm)
    | exact retS rfl (congrArg _ (two_1 (by assumption) (by assumption)).symm)
    | exact retS rfl (congrArg _ (two_2 (by assumption) (by assumption) (by assumption)).symm)
    | exact retS rfl (congrArg _ (two_y (by assumption) (by assumption) (by assumption) (by assumption)).symm)
    | exact retS rfl (congrArg _ (two_x (by assumption) (by assumption) (by assumption) (by assumption)).symm))
set_option maxRecDepth 10000 in
theorem l2Op_sound : Sound Try.prog 101 sTwoN := by
  refine sound_of Try.func101 rfl (enters_of Try.func101 (by kernel_rfl) (by kernel_rfl)) ?_
  rintro ⟨op, x, y⟩ -
  conv => whnf
  repeat' (first
    | (refine aIf_t ?_; conv => whnf)
    | (refine aIf_f ?_; conv => whnf)
    | (refine fun (_ : _ ≤ maxLen) => ?_; conv => whnf)
    | (refine get_nat0 (by omega) ?_; conv => whnf)
    | (refine get_int0 (by omega) ?_; conv => whnf)
    | (refine get_nat (by omega) ?_; conv => whnf)
    | (refine get_int (by omega) ?_; conv => whnf)
    | (refine aGet_in rfl ?_; conv => whnf)
    | (refine And.intro (And.intro rfl (And.intro (by kernel_rfl) (And.intro rfl (by kernel_rfl)))) (And.intro (And.intro (by omega) (And.intro (bytes_le (b := 8) rfl (by omega)) (by omega))) ?_); conv => whnf)
    | (refine And.intro (by omega) ?_; conv => whnf)
    | (refine And.intro (by rw [List.length_map]; omega) ?_; conv => whnf)
    | (refine And.intro rfl (And.intro (List.cons_ne_nil _ _) ?_); conv => whnf)
    | (refine And.intro (Nat.le_of_ble_eq_true rfl) ?_; conv => whnf)
    | (refine callG_t ?_; conv => whnf)
    | (refine And.intro (pureL_ints _ _) ?_; conv => whnf)
    | (refine And.intro (pureL_take _ _ _) ?_; conv => whnf)
    | (refine And.intro (pureL_cut _ _ _ _) ?_; conv => whnf)
    | (refine cut_ints ?_; conv => whnf)
    | (refine cut_marks ?_; conv => whnf)
    | (refine cut_all rfl (scalL_ints _ _) ?_; conv => whnf)
    | (refine cut_all (by simp only [List.length_map]; omega) (scalL_ints _ _) ?_; conv => whnf)
    | (refine append_int rfl rfl (by first | rfl | (simp only [List.length_take, turned_length]; omega)) (by omega) (Nat.le_of_ble_eq_true rfl) ?_; conv => whnf)
    | (refine append_int3 rfl rfl rfl rfl (by omega) (Nat.le_of_ble_eq_true rfl) ?_; conv => whnf)
    | (refine And.intro rfl (And.intro rfl (And.intro (by first | omega | (rw [List.length_map]; omega)) ?_)); conv => whnf)
    | (refine set_nat ?_ (by omega); conv => whnf)
    | (refine set_int ?_ (by omega); conv => whnf)
    | (refine set_bool ?_ (by omega); conv => whnf)
    | (refine set_force ?_; conv => whnf)
    | (refine get_bool0 (by omega) ?_; conv => whnf)
    | (refine And.intro (And.intro rfl (And.intro (by kernel_rfl) (And.intro rfl (by kernel_rfl)))) (And.intro (And.intro (by omega) (And.intro (bytes_le (b := 1) rfl (by omega)) (by omega))) ?_); conv => whnf)
    | (refine And.intro (And.intro (by kernel_rfl) (And.intro rfl (Nat.le_of_ble_eq_true rfl))) ?_; conv => whnf)
    | (refine And.intro (And.intro (by kernel_rfl) (by kernel_rfl)) ?_; conv => whnf)
    | (refine And.intro (by kernel_rfl) ?_; conv => whnf)
    | (refine aIf_tt (by assumption) ?_; conv => whnf)
    | (refine aIf_ff (by assumption) ?_; conv => whnf)
    | refine aIf_eqt ?_
    | refine aIf_eqf ?_
    | refine aIf_not ?_
    | (refine aIf_bself ?_; conv => whnf)
    | (refine aIf_beself ?_; conv => whnf)
    | (refine aIf_iself ?_; conv => whnf)
    | (refine aIf_decself ?_; conv => whnf)
    | (refine aIf_dec (fun _ => ?_) (fun _ => ?_) <;> conv => whnf)
    | (refine aIf_beq (fun _ => ?_) (fun _ => ?_) <;> conv => whnf)
    | (refine aIf_bne (fun _ => ?_) (fun _ => ?_) <;> conv => whnf)
    | (refine aIf_bbne (fun _ => ?_) (fun _ => ?_) <;> conv => whnf)
    | (refine aIf_bbeq (fun _ => ?_) (fun _ => ?_) <;> conv => whnf)
    | (refine aIf_in (fun _ => ?_) (fun _ => ?_) <;> conv => whnf))
  all_goals (first
    | exact retS rfl (congrArg _ (two_0 (by assumption)).symm)
    | exact retS rfl (congrArg _ (two_1 (by assumption) (by assumption)).symm)
    | exact retS rfl (congrArg _ (two_2 (by assumption) (by assumption) (by assumption)).symm)
    | exact retS rfl (congrArg _ (two_x' (by assumption) (by assumption) (by assumption) (by assumption)).symm)
    | exact retS rfl (congrArg _ (two_y' (by assumption) (by assumption) (by assumption) (by assumption)).symm))
theorem twoNums_call {op x y : Int} {env : List AV} {rows : List Row} {ctr low : Nat} {k : AV → St → Prop} (h : k (.int .i64 (two op x y)) ⟨env, rows, ctr + 1, low⟩) : CallB Try.prog 69 ⟨env, rows, ctr, low⟩ [.int .i64 op, .int .i64 x, .int .i64 y] k :=
  callS_in twoNums_sound (op, x, y) trivial rfl h
theorem l2Op_call {op x y : Int} {env : List AV} {rows : List Row} {ctr low : Nat} {k : AV → St → Prop} (h : k (.int .i64 (two op x y)) ⟨env, rows, ctr + 1, low⟩) : CallB Try.prog 101 ⟨env, rows, ctr, low⟩ [.int .i64 op, .int .i64 x, .int .i64 y] k :=
  callS_in l2Op_sound (op, x, y) trivial rfl h

/-- What comes of two rows of numbers, number by number. -/
def twoL (op : Int) (us vs : List Int) : List Int := (List.range us.length).map fun j => two op (us.getD j 0) (vs.getD j 0)
theorem twoL_length (op : Int) (us vs : List Int) : (twoL op us vs).length = us.length := by simp [twoL]
theorem twoL_getD {op : Int} {us vs : List Int} {j : Nat} (h : j < us.length) : (twoL op us vs).getD j 0 = two op (us.getD j 0) (vs.getD j 0) := range_getD h
abbrev sprd (xs zs ys : List Int) : List Int := rdL zs ys (sst xs ys) 0
def twoP (op : Int) (xs zs ps qs : List Int) : Prop := tensorOk xs zs = true ∧ tensorOk ps qs = true ∧ (0 ≤ op ∧ op ≤ 3) ∧ jOk xs ps = true
instance (op : Int) (xs zs ps qs : List Int) : Decidable (twoP op xs zs ps qs) := by unfold twoP; infer_instance
def twoM (op : Int) (xs zs ps qs : List Int) : TM := if twoP op xs zs ps qs then told (jL xs ps) (twoL op (sprd xs zs (jL xs ps)) (sprd ps qs (jL xs ps))) else noT
theorem twoM_t {op : Int} {xs zs ps qs : List Int} (h : twoP op xs zs ps qs) : twoM op xs zs ps qs = told (jL xs ps) (twoL op (sprd xs zs (jL xs ps)) (sprd ps qs (jL xs ps))) := if_pos h
theorem twoM_f {op : Int} {xs zs ps qs : List Int} (h : ¬ twoP op xs zs ps qs) : twoM op xs zs ps qs = noT := if_neg h
theorem twoM_len (op : Int) (xs zs ps qs : List Int) : (twoM op xs zs ps qs).1.length ≤ 3 ∧ (twoM op xs zs ps qs).2.1.length ≤ 64 := by
  by_cases h : twoP op xs zs ps qs
  · rw [twoM_t h]; exact told_len _ _
  · rw [twoM_f h]; exact ⟨Nat.zero_le _, Nat.zero_le _⟩
theorem jOk_r {xs ps : List Int} (h : jOk xs ps = true) : jOk ps (jL xs ps) = true ∧ jL ps (jL xs ps) = jL xs ps := by
  have h' : jOk ps xs = true := by rw [jOk_comm]; exact h
  rw [jL_comm xs ps]
  exact ⟨jOk_jL h', jL_jL h'⟩
def sTwoOf : CSpec := fnTB (ι := Int × Nat × List Int × Nat × List Int × Nat × List Int × Nat × List Int) 3 (fun | (op, c, xs, d, zs, e, ps, f, qs) => [.int .i64 op, .agg [.sl c xs.length (xs.map (.int .i64)), .sl d zs.length (zs.map (.int .i64))], .agg [.sl e ps.length (ps.map (.int .i64)), .sl f qs.length (qs.map (.int .i64))]]) (fun _ => True) (fun | (op, _, xs, _, zs, _, ps, _, qs) => twoM op xs zs ps qs)
set_option maxHeartbeats 4000000 in
set_option maxRecDepth 10000 in
theorem iTwoOf_sound : Sound Try.prog 32 sTwoOf := by
  refine sound_of Try.func32 rfl (enters_of Try.func32 (by kernel_rfl) (by kernel_rfl)) ?_
  rintro ⟨op, c, xs, d, zs, e, ps, f, qs⟩ -
  have hmax : maxLen = 9223372036854775807 := rfl
  have hle := jL_le6 xs ps
  by_cases hop : 0 ≤ op ∧ op ≤ 3
  · cases hj : jOk xs ps with
    | false =>
      have hC : ¬ twoP op xs zs ps qs := fun h => Bool.false_ne_true (hj.symm.trans h.2.2.2)
      conv => whnf
      repeat' (first
        | (refine aIf_t ?_; conv => whnf)
        | (refine aIf_f ?_; conv => whnf)
        | (refine fun (_ : _ ≤ maxLen) => ?_; conv => whnf)
        | (refine get_nat0 (by omega) ?_; conv => whnf)
        | (refine get_int0 (by omega) ?_; conv => whnf)
        | (refine get_nat (by omega) ?_; conv => whnf)
        | (refine get_int (by omega) ?_; conv => whnf)
        | (refine aGet_in rfl ?_; conv => whnf)
        | (refine And.intro (And.intro rfl (And.intro (by kernel_rfl) (And.intro rfl (by kernel_rfl)))) (And.intro (And.intro (by omega) (And.intro (bytes_le (b := 8) rfl (by omega)) (by omega))) ?_); conv => whnf)
        | (refine And.intro (by omega) ?_; conv => whnf)
        | (refine And.intro (by rw [List.length_map]; omega) ?_; conv => whnf)
        | (refine And.intro rfl (And.intro (List.cons_ne_nil _ _) ?_); conv => whnf)
        | (refine And.intro (Nat.le_of_ble_eq_true rfl) ?_; conv => whnf)
        | (refine orNone_call _ _ rfl rfl (by decide) (by first | rfl | omega) (by first | rfl | omega) (fun _ => ?_) (fun _ => ?_) <;> conv => whnf)
        | (refine orNone_call [_, _] _ rfl rfl (by decide) (by first | rfl | omega) (by first | rfl | omega) (fun _ => ?_) (fun _ => ?_) <;> conv => whnf)
        | (refine callG_t ?_; conv => whnf)
        | (refine iSpreadOf_call (by omega) ?_; conv => whnf)
        | (refine And.intro (pureL_ints _ _) ?_; conv => whnf)
        | (refine And.intro (pureL_take _ _ _) ?_; conv => whnf)
        | (refine And.intro (pureL_cut _ _ _ _) ?_; conv => whnf)
        | (refine cut_ints ?_; conv => whnf)
        | (refine cut_marks ?_; conv => whnf)
        | (refine cut_all rfl (scalL_ints _ _) ?_; conv => whnf)
        | (refine cut_all (by simp only [List.length_map]; omega) (scalL_ints _ _) ?_; conv => whnf)
        | (refine twoNums_call ?_; conv => whnf)
        | (refine append_int rfl rfl (by first | rfl | (simp only [List.length_take, turned_length]; omega)) (by omega) (Nat.le_of_ble_eq_true rfl) ?_; conv => whnf)
        | (refine append_int3 rfl rfl rfl rfl (by omega) (Nat.le_of_ble_eq_true rfl) ?_; conv => whnf)
        | (refine iJoin_call ?_; conv => whnf)
        | (refine And.intro rfl (And.intro rfl (And.intro (by first | omega | (rw [List.length_map]; omega)) ?_)); conv => whnf)
        | (refine set_nat ?_ (by omega); conv => whnf)
        | (refine set_int ?_ (by omega); conv => whnf)
        | (refine set_bool ?_ (by omega); conv => whnf)
        | (refine set_force ?_; conv => whnf)
        | (refine get_bool0 (by omega) ?_; conv => whnf)
        | (refine And.intro (And.intro rfl (And.intro (by kernel_rfl) (And.intro rfl (by kernel_rfl)))) (And.intro (And.intro (by omega) (And.intro (bytes_le (b := 1) rfl (by omega)) (by omega))) ?_); conv => whnf)
        | (refine And.intro (And.intro (by kernel_rfl) (And.intro rfl (Nat.le_of_ble_eq_true rfl))) ?_; conv => whnf)
        | (refine And.intro (And.intro (by kernel_rfl) (by kernel_rfl)) ?_; conv => whnf)
        | (refine And.intro (by kernel_rfl) ?_; conv => whnf)
        | (refine aIf_tt (by assumption) ?_; conv => whnf)
        | (refine aIf_ff (by assumption) ?_; conv => whnf)
        | refine aIf_eqt ?_
        | refine aIf_eqf ?_
        | refine aIf_not ?_
        | (refine aIf_bself ?_; conv => whnf)
        | (refine aIf_beself ?_; conv => whnf)
        | (refine aIf_iself ?_; conv => whnf)
        | (refine aIf_decself ?_; conv => whnf)
        | (refine aIf_dec (fun _ => ?_) (fun _ => ?_) <;> conv => whnf)
        | (refine aIf_beq (fun _ => ?_) (fun _ => ?_) <;> conv => whnf)
        | (refine aIf_bne (fun _ => ?_) (fun _ => ?_) <;> conv => whnf)
        | (refine aIf_bbne (fun _ => ?_) (fun _ => ?_) <;> conv => whnf)
        | (refine aIf_bbeq (fun _ => ?_) (fun _ => ?_) <;> conv => whnf)
        | (refine aIf_in (fun _ => ?_) (fun _ => ?_) <;> conv => whnf))
      all_goals (first | (exfalso; omega) | skip)
      refine retTB (hM := twoM_f hC) ?_ ?_ ?_ ?_ ?_
      all_goals (first | exact rfl | decide | (simp; done))
    | true =>
      obtain ⟨r1, r2⟩ := jOk_r hj
      have b1 := jL_ok hj
      have hc := cnt64 b1 (Nat.le_refl _)
      have z1 := sp_zero' (jOk_jL hj) (jL_jL hj)
      have z2 := sp_zero' r1 r2
      have lA := (spM_len xs zs (jL xs ps)).2
      have lB := (spM_len ps qs (jL xs ps)).2
      rcases tensor_or xs zs with ⟨ht, hx, hz⟩ | ht
      · have hA := spM_t ht (by omega : ¬ spread xs (jL xs ps) 0 < 0)
        have hA2 : (spM xs zs (jL xs ps)).2.2 = true := by rw [hA]
        rcases tensor_or ps qs with ⟨hu, hy, hw⟩ | hu
        · have hB := spM_t hu (by omega : ¬ spread ps (jL xs ps) 0 < 0)
          have hB2 : (spM ps qs (jL xs ps)).2.2 = true := by rw [hB]
          have nA : (spM xs zs (jL xs ps)).2.1.length = (cntTo (jL xs ps) (jL xs ps).length).toNat := by rw [hA]; exact rdL_length _ _ _ _
          have nB : (spM ps qs (jL xs ps)).2.1.length = (cntTo (jL xs ps) (jL xs ps).length).toNat := by rw [hB]; exact rdL_length _ _ _ _
          conv => whnf
          repeat' (first
            | (refine aIf_t ?_; conv => whnf)
            | (refine aIf_f ?_; conv => whnf)
            | (refine fun (_ : _ ≤ maxLen) => ?_; conv => whnf)
            | (refine get_nat0 (by omega) ?_; conv => whnf)
            | (refine get_int0 (by omega) ?_; conv => whnf)
            | (refine get_nat (by omega) ?_; conv => whnf)
            | (refine get_int (by omega) ?_; conv => whnf)
            | (refine aGet_in rfl ?_; conv => whnf)
            | (refine And.intro (And.intro rfl (And.intro (by kernel_rfl) (And.intro rfl (by kernel_rfl)))) (And.intro (And.intro (by omega) (And.intro (bytes_le (b := 8) rfl (by omega)) (by omega))) ?_); conv => whnf)
            | (refine And.intro (by omega) ?_; conv => whnf)
            | (refine And.intro (by rw [List.length_map]; omega) ?_; conv => whnf)
            | (refine And.intro rfl (And.intro (List.cons_ne_nil _ _) ?_); conv => whnf)
            | (refine And.intro (Nat.le_of_ble_eq_true rfl) ?_; conv => whnf)
            | (refine orNone_call _ _ rfl rfl (by decide) (by first | rfl | omega) (by first | rfl | omega) (fun _ => ?_) (fun _ => ?_) <;> conv => whnf)
            | (refine orNone_call [_, _] _ rfl rfl (by decide) (by first | rfl | omega) (by first | rfl | omega) (fun _ => ?_) (fun _ => ?_) <;> conv => whnf)
            | (refine callG_t ?_; conv => whnf)
            | (refine iSpreadOf_call (by omega) ?_; conv => whnf)
            | (refine And.intro (pureL_ints _ _) ?_; conv => whnf)
            | (refine And.intro (pureL_take _ _ _) ?_; conv => whnf)
            | (refine And.intro (pureL_cut _ _ _ _) ?_; conv => whnf)
            | (refine cut_ints ?_; conv => whnf)
            | (refine cut_marks ?_; conv => whnf)
            | (refine cut_all rfl (scalL_ints _ _) ?_; conv => whnf)
            | (refine cut_all (by simp only [List.length_map]; omega) (scalL_ints _ _) ?_; conv => whnf)
            | (refine twoNums_call ?_; conv => whnf)
            | (refine append_int rfl rfl (by first | rfl | (simp only [List.length_take, turned_length]; omega)) (by omega) (Nat.le_of_ble_eq_true rfl) ?_; conv => whnf)
            | (refine append_int3 rfl rfl rfl rfl (by omega) (Nat.le_of_ble_eq_true rfl) ?_; conv => whnf)
            | (refine iJoin_call ?_; conv => whnf)
            | (refine And.intro rfl (And.intro rfl (And.intro (by first | omega | (rw [List.length_map]; omega)) ?_)); conv => whnf)
            | (refine set_nat ?_ (by omega); conv => whnf)
            | (refine set_int ?_ (by omega); conv => whnf)
            | (refine set_bool ?_ (by omega); conv => whnf)
            | (refine set_force ?_; conv => whnf)
            | (refine get_bool0 (by omega) ?_; conv => whnf)
            | (refine And.intro (And.intro rfl (And.intro (by kernel_rfl) (And.intro rfl (by kernel_rfl)))) (And.intro (And.intro (by omega) (And.intro (bytes_le (b := 1) rfl (by omega)) (by omega))) ?_); conv => whnf)
            | (refine And.intro (And.intro (by kernel_rfl) (And.intro rfl (Nat.le_of_ble_eq_true rfl))) ?_; conv => whnf)
            | (refine And.intro (And.intro (by kernel_rfl) (by kernel_rfl)) ?_; conv => whnf)
            | (refine And.intro (by kernel_rfl) ?_; conv => whnf)
            | (refine aIf_tt (by assumption) ?_; conv => whnf)
            | (refine aIf_ff (by assumption) ?_; conv => whnf)
            | refine aIf_eqt ?_
            | refine aIf_eqf ?_
            | refine aIf_not ?_
            | (refine aIf_bself ?_; conv => whnf)
            | (refine aIf_beself ?_; conv => whnf)
            | (refine aIf_iself ?_; conv => whnf)
            | (refine aIf_decself ?_; conv => whnf)
            | (refine aIf_dec (fun _ => ?_) (fun _ => ?_) <;> conv => whnf)
            | (refine aIf_beq (fun _ => ?_) (fun _ => ?_) <;> conv => whnf)
            | (refine aIf_bne (fun _ => ?_) (fun _ => ?_) <;> conv => whnf)
            | (refine aIf_bbne (fun _ => ?_) (fun _ => ?_) <;> conv => whnf)
            | (refine aIf_bbeq (fun _ => ?_) (fun _ => ?_) <;> conv => whnf)
            | (refine aIf_in (fun _ => ?_) (fun _ => ?_) <;> conv => whnf))
          all_goals (first | (exfalso; omega) | skip)
          refine loop_in (ι := Nat × List Int) (fun | (k, ws) => ⟨[.int .i64 op, .un, .un, .un, .un, .un, .ptr 4 5 0, .un, .ref 5 6 0 (jL xs ps).length, .un, .un, .un, .ptr 15 14 0, .un, .ref 16 15 0 ((spM xs zs (jL xs ps)).2.1.length : Int).toNat, .un, .un, .un, .un, .un, .un, .un, .un, .un, .un, .un, .un, .un, .un, .un, .un, .un, .un, .un, .un, .un, .un, .un, .un, .un, .un, .un, .un, .un, .un, .un, .un, .un, .un, .un, .un, .un, .un, .un, .un, .un, .un, .un, .un, .un, .ref 7 7 0 (spM xs zs (jL xs ps)).2.1.length, .int .i64 (spM xs zs (jL xs ps)).2.1.length, .int .i64 k, .un, .un, .un, .un, .un, .un, .un, .un, .un, .un, .un, .un, .un, .un, .un, .un, .un, .un, .un, .un, .un], [bt 1 [.sl c xs.length (xs.map (.int .i64)), .sl d zs.length (zs.map (.int .i64))], bt 2 [.sl e ps.length (ps.map (.int .i64)), .sl f qs.length (qs.map (.int .i64))], nl 3, nl 4, bt 5 [.ref 2 3 0 0, .ref 3 4 0 0], li 6 (jL xs ps), li 7 (spM xs zs (jL xs ps)).1, li 7 (spM xs zs (jL xs ps)).2.1, nl 8, nl 9, bt 10 [.ref 6 7 0 (spM xs zs (jL xs ps)).1.length, .ref 7 7 0 (spM xs zs (jL xs ps)).2.1.length], li 11 (spM ps qs (jL xs ps)).1, li 11 (spM ps qs (jL xs ps)).2.1, nl 12, nl 13, bt 14 [.ref 11 11 0 (spM ps qs (jL xs ps)).1.length, .ref 12 11 0 (spM ps qs (jL xs ps)).2.1.length], li 15 ws], 16, 0⟩)
            (fun x => x.1 ≤ (spM xs zs (jL xs ps)).2.1.length ∧ x.2.length = (spM xs zs (jL xs ps)).2.1.length ∧ ∀ j, j < x.1 → x.2.getD j 0 = two op ((spM xs zs (jL xs ps)).2.1.getD j 0) ((spM ps qs (jL xs ps)).2.1.getD j 0)) (fun x => (spM xs zs (jL xs ps)).2.1.length - x.1) (0, List.replicate ((spM xs zs (jL xs ps)).2.1.length : Int).toNat 0) ⟨Nat.zero_le _, by simp, fun j hj => absurd hj (Nat.not_lt_zero _)⟩ ?_ ?_
          · repeat' (first
              | exact trivial
              | exact rfl
              | exact pureL_ints _ _
              | exact pureL_bools _
              | exact Or.inl (And.intro rfl rfl)
              | exact Or.inl (And.intro (pureL_box _ _) rfl)
              | exact le_ints rfl
              | exact le_ints (rep_ints _ _)
              | exact le_bools rfl
              | exact le_bools (rep_bools _)
              | exact Or.inl (And.intro (pureL_pair _ _ _ _ _ _) rfl)
              | refine le_ints ?_
              | refine Or.inr ?_
              | refine And.intro ?_ ?_
              | exact Nat.le_of_ble_eq_true rfl
              | exact Nat.zero_le _
              | exact int_eq (by assumption)
              | exact int_eq (by omega)
              | exact int_eq (Int.add_zero _).symm
              | exact List.length_append
              | exact int_eq (by rw [IntWalk.i64_in _ (by omega)] <;> omega))
          · rintro ⟨k, ws⟩ ⟨hk, hl, hall⟩
            have hk : k ≤ (spM xs zs (jL xs ps)).2.1.length := hk
            have hl : ws.length = (spM xs zs (jL xs ps)).2.1.length := hl
            have hall : ∀ j, j < k → ws.getD j 0 = two op ((spM xs zs (jL xs ps)).2.1.getD j 0) ((spM ps qs (jL xs ps)).2.1.getD j 0) := hall
            by_cases hlt : k < (spM xs zs (jL xs ps)).2.1.length
            · conv => whnf
              repeat' (first
                | (refine aIf_t ?_; conv => whnf)
                | (refine aIf_f ?_; conv => whnf)
                | (refine fun (_ : _ ≤ maxLen) => ?_; conv => whnf)
                | (refine get_nat0 (by omega) ?_; conv => whnf)
                | (refine get_int0 (by omega) ?_; conv => whnf)
                | (refine get_nat (by omega) ?_; conv => whnf)
                | (refine get_int (by omega) ?_; conv => whnf)
                | (refine aGet_in rfl ?_; conv => whnf)
                | (refine And.intro (And.intro rfl (And.intro (by kernel_rfl) (And.intro rfl (by kernel_rfl)))) (And.intro (And.intro (by omega) (And.intro (bytes_le (b := 8) rfl (by omega)) (by omega))) ?_); conv => whnf)
                | (refine And.intro (by omega) ?_; conv => whnf)
                | (refine And.intro (by rw [List.length_map]; omega) ?_; conv => whnf)
                | (refine And.intro rfl (And.intro (List.cons_ne_nil _ _) ?_); conv => whnf)
                | (refine And.intro (Nat.le_of_ble_eq_true rfl) ?_; conv => whnf)
                | (refine orNone_call _ _ rfl rfl (by decide) (by first | rfl | omega) (by first | rfl | omega) (fun _ => ?_) (fun _ => ?_) <;> conv => whnf)
                | (refine orNone_call [_, _] _ rfl rfl (by decide) (by first | rfl | omega) (by first | rfl | omega) (fun _ => ?_) (fun _ => ?_) <;> conv => whnf)
                | (refine callG_t ?_; conv => whnf)
                | (refine iSpreadOf_call (by omega) ?_; conv => whnf)
                | (refine And.intro (pureL_ints _ _) ?_; conv => whnf)
                | (refine And.intro (pureL_take _ _ _) ?_; conv => whnf)
                | (refine And.intro (pureL_cut _ _ _ _) ?_; conv => whnf)
                | (refine cut_ints ?_; conv => whnf)
                | (refine cut_marks ?_; conv => whnf)
                | (refine cut_all rfl (scalL_ints _ _) ?_; conv => whnf)
                | (refine cut_all (by simp only [List.length_map]; omega) (scalL_ints _ _) ?_; conv => whnf)
                | (refine twoNums_call ?_; conv => whnf)
                | (refine append_int rfl rfl (by first | rfl | (simp only [List.length_take, turned_length]; omega)) (by omega) (Nat.le_of_ble_eq_true rfl) ?_; conv => whnf)
                | (refine append_int3 rfl rfl rfl rfl (by omega) (Nat.le_of_ble_eq_true rfl) ?_; conv => whnf)
                | (refine iJoin_call ?_; conv => whnf)
                | (refine And.intro rfl (And.intro rfl (And.intro (by first | omega | (rw [List.length_map]; omega)) ?_)); conv => whnf)
                | (refine set_nat ?_ (by omega); conv => whnf)
                | (refine set_int ?_ (by omega); conv => whnf)
                | (refine set_bool ?_ (by omega); conv => whnf)
                | (refine set_force ?_; conv => whnf)
                | (refine get_bool0 (by omega) ?_; conv => whnf)
                | (refine And.intro (And.intro rfl (And.intro (by kernel_rfl) (And.intro rfl (by kernel_rfl)))) (And.intro (And.intro (by omega) (And.intro (bytes_le (b := 1) rfl (by omega)) (by omega))) ?_); conv => whnf)
                | (refine And.intro (And.intro (by kernel_rfl) (And.intro rfl (Nat.le_of_ble_eq_true rfl))) ?_; conv => whnf)
                | (refine And.intro (And.intro (by kernel_rfl) (by kernel_rfl)) ?_; conv => whnf)
                | (refine And.intro (by kernel_rfl) ?_; conv => whnf)
                | (refine aIf_tt (by assumption) ?_; conv => whnf)
                | (refine aIf_ff (by assumption) ?_; conv => whnf)
                | refine aIf_eqt ?_
                | refine aIf_eqf ?_
                | refine aIf_not ?_
                | (refine aIf_bself ?_; conv => whnf)
                | (refine aIf_beself ?_; conv => whnf)
                | (refine aIf_iself ?_; conv => whnf)
                | (refine aIf_decself ?_; conv => whnf)
                | (refine aIf_dec (fun _ => ?_) (fun _ => ?_) <;> conv => whnf)
                | (refine aIf_beq (fun _ => ?_) (fun _ => ?_) <;> conv => whnf)
                | (refine aIf_bne (fun _ => ?_) (fun _ => ?_) <;> conv => whnf)
                | (refine aIf_bbne (fun _ => ?_) (fun _ => ?_) <;> conv => whnf)
                | (refine aIf_bbeq (fun _ => ?_) (fun _ => ?_) <;> conv => whnf)
                | (refine aIf_in (fun _ => ?_) (fun _ => ?_) <;> conv => whnf))
              all_goals (first | (exfalso; omega) | skip)
              refine next_in (k + 1, ws.set k (two op ((spM xs zs (jL xs ps)).2.1.getD k 0) ((spM ps qs (jL xs ps)).2.1.getD k 0))) (show (spM xs zs (jL xs ps)).2.1.length - (k + 1) < (spM xs zs (jL xs ps)).2.1.length - k by omega) ⟨(show k + 1 ≤ (spM xs zs (jL xs ps)).2.1.length by omega), (show (ws.set k _).length = _ by simpa using hl), fun j hj => ?_⟩ ?_
              · have hj : j < k + 1 := hj
                show (ws.set k (two op ((spM xs zs (jL xs ps)).2.1.getD k 0) ((spM ps qs (jL xs ps)).2.1.getD k 0))).getD j 0 = _
                rw [getD_set (by omega)]
                split
                · rename_i e; rw [e]
                · exact hall j (by omega)
              · repeat' (first
                  | exact trivial
                  | exact rfl
                  | exact pureL_ints _ _
                  | exact pureL_bools _
                  | exact Or.inl (And.intro rfl rfl)
                  | exact Or.inl (And.intro (pureL_box _ _) rfl)
                  | exact le_ints rfl
                  | exact le_ints (rep_ints _ _)
                  | exact le_bools rfl
                  | exact le_bools (rep_bools _)
                  | exact Or.inl (And.intro (pureL_pair _ _ _ _ _ _) rfl)
                  | refine le_ints ?_
                  | refine Or.inr ?_
                  | refine And.intro ?_ ?_
                  | exact Nat.le_of_ble_eq_true rfl
                  | exact Nat.zero_le _
                  | exact int_eq (by assumption)
                  | exact int_eq (by omega)
                  | exact int_eq (Int.add_zero _).symm
                  | exact List.length_append
                  | exact int_eq (by rw [IntWalk.i64_in _ (by omega)] <;> omega))
            · have hke : k = (spM xs zs (jL xs ps)).2.1.length := by omega
              have hws : ws = twoL op (sprd xs zs (jL xs ps)) (sprd ps qs (jL xs ps)) := getD_ext (by rw [twoL_length, hl, hA]) fun j hj => by
                rw [twoL_length, rdL_length, ← nA] at hj
                rw [hall j (by omega), twoL_getD (by rw [rdL_length]; omega), hA, hB]
              have hM : twoM op xs zs ps qs = told (jL xs ps) ws := by rw [twoM_t ⟨ht, hu, hop, hj⟩, hws]
              conv => whnf
              repeat' (first
                | (refine aIf_t ?_; conv => whnf)
                | (refine aIf_f ?_; conv => whnf)
                | (refine fun (_ : _ ≤ maxLen) => ?_; conv => whnf)
                | (refine get_nat0 (by omega) ?_; conv => whnf)
                | (refine get_int0 (by omega) ?_; conv => whnf)
                | (refine get_nat (by omega) ?_; conv => whnf)
                | (refine get_int (by omega) ?_; conv => whnf)
                | (refine aGet_in rfl ?_; conv => whnf)
                | (refine And.intro (And.intro rfl (And.intro (by kernel_rfl) (And.intro rfl (by kernel_rfl)))) (And.intro (And.intro (by omega) (And.intro (bytes_le (b := 8) rfl (by omega)) (by omega))) ?_); conv => whnf)
                | (refine And.intro (by omega) ?_; conv => whnf)
                | (refine And.intro (by rw [List.length_map]; omega) ?_; conv => whnf)
                | (refine And.intro rfl (And.intro (List.cons_ne_nil _ _) ?_); conv => whnf)
                | (refine And.intro (Nat.le_of_ble_eq_true rfl) ?_; conv => whnf)
                | (refine orNone_call _ _ rfl rfl (by decide) (by first | rfl | omega) (by first | rfl | omega) (fun _ => ?_) (fun _ => ?_) <;> conv => whnf)
                | (refine orNone_call [_, _] _ rfl rfl (by decide) (by first | rfl | omega) (by first | rfl | omega) (fun _ => ?_) (fun _ => ?_) <;> conv => whnf)
                | (refine callG_t ?_; conv => whnf)
                | (refine iSpreadOf_call (by omega) ?_; conv => whnf)
                | (refine And.intro (pureL_ints _ _) ?_; conv => whnf)
                | (refine And.intro (pureL_take _ _ _) ?_; conv => whnf)
                | (refine And.intro (pureL_cut _ _ _ _) ?_; conv => whnf)
                | (refine cut_ints ?_; conv => whnf)
                | (refine cut_marks ?_; conv => whnf)
                | (refine cut_all rfl (scalL_ints _ _) ?_; conv => whnf)
                | (refine cut_all (by simp only [List.length_map]; omega) (scalL_ints _ _) ?_; conv => whnf)
                | (refine twoNums_call ?_; conv => whnf)
                | (refine append_int rfl rfl (by first | rfl | (simp only [List.length_take, turned_length]; omega)) (by omega) (Nat.le_of_ble_eq_true rfl) ?_; conv => whnf)
                | (refine append_int3 rfl rfl rfl rfl (by omega) (Nat.le_of_ble_eq_true rfl) ?_; conv => whnf)
                | (refine iJoin_call ?_; conv => whnf)
                | (refine And.intro rfl (And.intro rfl (And.intro (by first | omega | (rw [List.length_map]; omega)) ?_)); conv => whnf)
                | (refine set_nat ?_ (by omega); conv => whnf)
                | (refine set_int ?_ (by omega); conv => whnf)
                | (refine set_bool ?_ (by omega); conv => whnf)
                | (refine set_force ?_; conv => whnf)
                | (refine get_bool0 (by omega) ?_; conv => whnf)
                | (refine And.intro (And.intro rfl (And.intro (by kernel_rfl) (And.intro rfl (by kernel_rfl)))) (And.intro (And.intro (by omega) (And.intro (bytes_le (b := 1) rfl (by omega)) (by omega))) ?_); conv => whnf)
                | (refine And.intro (And.intro (by kernel_rfl) (And.intro rfl (Nat.le_of_ble_eq_true rfl))) ?_; conv => whnf)
                | (refine And.intro (And.intro (by kernel_rfl) (by kernel_rfl)) ?_; conv => whnf)
                | (refine And.intro (by kernel_rfl) ?_; conv => whnf)
                | (refine aIf_tt (by assumption) ?_; conv => whnf)
                | (refine aIf_ff (by assumption) ?_; conv => whnf)
                | refine aIf_eqt ?_
                | refine aIf_eqf ?_
                | refine aIf_not ?_
                | (refine aIf_bself ?_; conv => whnf)
                | (refine aIf_beself ?_; conv => whnf)
                | (refine aIf_iself ?_; conv => whnf)
                | (refine aIf_decself ?_; conv => whnf)
                | (refine aIf_dec (fun _ => ?_) (fun _ => ?_) <;> conv => whnf)
                | (refine aIf_beq (fun _ => ?_) (fun _ => ?_) <;> conv => whnf)
                | (refine aIf_bne (fun _ => ?_) (fun _ => ?_) <;> conv => whnf)
                | (refine aIf_bbne (fun _ => ?_) (fun _ => ?_) <;> conv => whnf)
                | (refine aIf_bbeq (fun _ => ?_) (fun _ => ?_) <;> conv => whnf)
                | (refine aIf_in (fun _ => ?_) (fun _ => ?_) <;> conv => whnf))
              all_goals (first | (exfalso; omega) | skip)
              · rename_i hT
                refine retTB (hM := hM.trans (told_t hT)) ?_ ?_ ?_ ?_ ?_
                all_goals (first | exact rfl | decide | (simp; done))
              · rename_i hT
                refine retTB (hM := hM.trans (told_f hT)) ?_ ?_ ?_ ?_ ?_
                all_goals (first | exact rfl | decide | (simp; done))
        · have hB2 : (spM ps qs (jL xs ps)).2.2 = false := by rw [spM_f1 hu]; rfl
          have hC : ¬ twoP op xs zs ps qs := fun h => Bool.false_ne_true (hu.symm.trans h.2.1)
          conv => whnf
          repeat' (first
            | (refine aIf_t ?_; conv => whnf)
            | (refine aIf_f ?_; conv => whnf)
            | (refine fun (_ : _ ≤ maxLen) => ?_; conv => whnf)
            | (refine get_nat0 (by omega) ?_; conv => whnf)
            | (refine get_int0 (by omega) ?_; conv => whnf)
            | (refine get_nat (by omega) ?_; conv => whnf)
            | (refine get_int (by omega) ?_; conv => whnf)
            | (refine aGet_in rfl ?_; conv => whnf)
            | (refine And.intro (And.intro rfl (And.intro (by kernel_rfl) (And.intro rfl (by kernel_rfl)))) (And.intro (And.intro (by omega) (And.intro (bytes_le (b := 8) rfl (by omega)) (by omega))) ?_); conv => whnf)
            | (refine And.intro (by omega) ?_; conv => whnf)
            | (refine And.intro (by rw [List.length_map]; omega) ?_; conv => whnf)
            | (refine And.intro rfl (And.intro (List.cons_ne_nil _ _) ?_); conv => whnf)
            | (refine And.intro (Nat.le_of_ble_eq_true rfl) ?_; conv => whnf)
            | (refine orNone_call _ _ rfl rfl (by decide) (by first | rfl | omega) (by first | rfl | omega) (fun _ => ?_) (fun _ => ?_) <;> conv => whnf)
            | (refine orNone_call [_, _] _ rfl rfl (by decide) (by first | rfl | omega) (by first | rfl | omega) (fun _ => ?_) (fun _ => ?_) <;> conv => whnf)
            | (refine callG_t ?_; conv => whnf)
            | (refine iSpreadOf_call (by omega) ?_; conv => whnf)
            | (refine And.intro (pureL_ints _ _) ?_; conv => whnf)
            | (refine And.intro (pureL_take _ _ _) ?_; conv => whnf)
            | (refine And.intro (pureL_cut _ _ _ _) ?_; conv => whnf)
            | (refine cut_ints ?_; conv => whnf)
            | (refine cut_marks ?_; conv => whnf)
            | (refine cut_all rfl (scalL_ints _ _) ?_; conv => whnf)
            | (refine cut_all (by simp only [List.length_map]; omega) (scalL_ints _ _) ?_; conv => whnf)
            | (refine twoNums_call ?_; conv => whnf)
            | (refine append_int rfl rfl (by first | rfl | (simp only [List.length_take, turned_length]; omega)) (by omega) (Nat.le_of_ble_eq_true rfl) ?_; conv => whnf)
            | (refine append_int3 rfl rfl rfl rfl (by omega) (Nat.le_of_ble_eq_true rfl) ?_; conv => whnf)
            | (refine iJoin_call ?_; conv => whnf)
            | (refine And.intro rfl (And.intro rfl (And.intro (by first | omega | (rw [List.length_map]; omega)) ?_)); conv => whnf)
            | (refine set_nat ?_ (by omega); conv => whnf)
            | (refine set_int ?_ (by omega); conv => whnf)
            | (refine set_bool ?_ (by omega); conv => whnf)
            | (refine set_force ?_; conv => whnf)
            | (refine get_bool0 (by omega) ?_; conv => whnf)
            | (refine And.intro (And.intro rfl (And.intro (by kernel_rfl) (And.intro rfl (by kernel_rfl)))) (And.intro (And.intro (by omega) (And.intro (bytes_le (b := 1) rfl (by omega)) (by omega))) ?_); conv => whnf)
            | (refine And.intro (And.intro (by kernel_rfl) (And.intro rfl (Nat.le_of_ble_eq_true rfl))) ?_; conv => whnf)
            | (refine And.intro (And.intro (by kernel_rfl) (by kernel_rfl)) ?_; conv => whnf)
            | (refine And.intro (by kernel_rfl) ?_; conv => whnf)
            | (refine aIf_tt (by assumption) ?_; conv => whnf)
            | (refine aIf_ff (by assumption) ?_; conv => whnf)
            | refine aIf_eqt ?_
            | refine aIf_eqf ?_
            | refine aIf_not ?_
            | (refine aIf_bself ?_; conv => whnf)
            | (refine aIf_beself ?_; conv => whnf)
            | (refine aIf_iself ?_; conv => whnf)
            | (refine aIf_decself ?_; conv => whnf)
            | (refine aIf_dec (fun _ => ?_) (fun _ => ?_) <;> conv => whnf)
            | (refine aIf_beq (fun _ => ?_) (fun _ => ?_) <;> conv => whnf)
            | (refine aIf_bne (fun _ => ?_) (fun _ => ?_) <;> conv => whnf)
            | (refine aIf_bbne (fun _ => ?_) (fun _ => ?_) <;> conv => whnf)
            | (refine aIf_bbeq (fun _ => ?_) (fun _ => ?_) <;> conv => whnf)
            | (refine aIf_in (fun _ => ?_) (fun _ => ?_) <;> conv => whnf))
          all_goals (first | (exfalso; omega) | skip)
          refine retTB (hM := twoM_f hC) ?_ ?_ ?_ ?_ ?_
          all_goals (first | exact rfl | decide | (simp; done))
      · have hA2 : (spM xs zs (jL xs ps)).2.2 = false := by rw [spM_f1 ht]; rfl
        have hC : ¬ twoP op xs zs ps qs := fun h => Bool.false_ne_true (ht.symm.trans h.1)
        conv => whnf
        repeat' (first
          | (refine aIf_t ?_; conv => whnf)
          | (refine aIf_f ?_; conv => whnf)
          | (refine fun (_ : _ ≤ maxLen) => ?_; conv => whnf)
          | (refine get_nat0 (by omega) ?_; conv => whnf)
          | (refine get_int0 (by omega) ?_; conv => whnf)
          | (refine get_nat (by omega) ?_; conv => whnf)
          | (refine get_int (by omega) ?_; conv => whnf)
          | (refine aGet_in rfl ?_; conv => whnf)
          | (refine And.intro (And.intro rfl (And.intro (by kernel_rfl) (And.intro rfl (by kernel_rfl)))) (And.intro (And.intro (by omega) (And.intro (bytes_le (b := 8) rfl (by omega)) (by omega))) ?_); conv => whnf)
          | (refine And.intro (by omega) ?_; conv => whnf)
          | (refine And.intro (by rw [List.length_map]; omega) ?_; conv => whnf)
          | (refine And.intro rfl (And.intro (List.cons_ne_nil _ _) ?_); conv => whnf)
          | (refine And.intro (Nat.le_of_ble_eq_true rfl) ?_; conv => whnf)
          | (refine orNone_call _ _ rfl rfl (by decide) (by first | rfl | omega) (by first | rfl | omega) (fun _ => ?_) (fun _ => ?_) <;> conv => whnf)
          | (refine orNone_call [_, _] _ rfl rfl (by decide) (by first | rfl | omega) (by first | rfl | omega) (fun _ => ?_) (fun _ => ?_) <;> conv => whnf)
          | (refine callG_t ?_; conv => whnf)
          | (refine iSpreadOf_call (by omega) ?_; conv => whnf)
          | (refine And.intro (pureL_ints _ _) ?_; conv => whnf)
          | (refine And.intro (pureL_take _ _ _) ?_; conv => whnf)
          | (refine And.intro (pureL_cut _ _ _ _) ?_; conv => whnf)
          | (refine cut_ints ?_; conv => whnf)
          | (refine cut_marks ?_; conv => whnf)
          | (refine cut_all rfl (scalL_ints _ _) ?_; conv => whnf)
          | (refine cut_all (by simp only [List.length_map]; omega) (scalL_ints _ _) ?_; conv => whnf)
          | (refine twoNums_call ?_; conv => whnf)
          | (refine append_int rfl rfl (by first | rfl | (simp only [List.length_take, turned_length]; omega)) (by omega) (Nat.le_of_ble_eq_true rfl) ?_; conv => whnf)
          | (refine append_int3 rfl rfl rfl rfl (by omega) (Nat.le_of_ble_eq_true rfl) ?_; conv => whnf)
          | (refine iJoin_call ?_; conv => whnf)
          | (refine And.intro rfl (And.intro rfl (And.intro (by first | omega | (rw [List.length_map]; omega)) ?_)); conv => whnf)
          | (refine set_nat ?_ (by omega); conv => whnf)
          | (refine set_int ?_ (by omega); conv => whnf)
          | (refine set_bool ?_ (by omega); conv => whnf)
          | (refine set_force ?_; conv => whnf)
          | (refine get_bool0 (by omega) ?_; conv => whnf)
          | (refine And.intro (And.intro rfl (And.intro (by kernel_rfl) (And.intro rfl (by kernel_rfl)))) (And.intro (And.intro (by omega) (And.intro (bytes_le (b := 1) rfl (by omega)) (by omega))) ?_); conv => whnf)
          | (refine And.intro (And.intro (by kernel_rfl) (And.intro rfl (Nat.le_of_ble_eq_true rfl))) ?_; conv => whnf)
          | (refine And.intro (And.intro (by kernel_rfl) (by kernel_rfl)) ?_; conv => whnf)
          | (refine And.intro (by kernel_rfl) ?_; conv => whnf)
          | (refine aIf_tt (by assumption) ?_; conv => whnf)
          | (refine aIf_ff (by assumption) ?_; conv => whnf)
          | refine aIf_eqt ?_
          | refine aIf_eqf ?_
          | refine aIf_not ?_
          | (refine aIf_bself ?_; conv => whnf)
          | (refine aIf_beself ?_; conv => whnf)
          | (refine aIf_iself ?_; conv => whnf)
          | (refine aIf_decself ?_; conv => whnf)
          | (refine aIf_dec (fun _ => ?_) (fun _ => ?_) <;> conv => whnf)
          | (refine aIf_beq (fun _ => ?_) (fun _ => ?_) <;> conv => whnf)
          | (refine aIf_bne (fun _ => ?_) (fun _ => ?_) <;> conv => whnf)
          | (refine aIf_bbne (fun _ => ?_) (fun _ => ?_) <;> conv => whnf)
          | (refine aIf_bbeq (fun _ => ?_) (fun _ => ?_) <;> conv => whnf)
          | (refine aIf_in (fun _ => ?_) (fun _ => ?_) <;> conv => whnf))
        all_goals (first | (exfalso; omega) | skip)
        refine retTB (hM := twoM_f hC) ?_ ?_ ?_ ?_ ?_
        all_goals (first | exact rfl | decide | (simp; done))
  · have hC : ¬ twoP op xs zs ps qs := fun h => hop h.2.2.1
    conv => whnf
    repeat' (first
      | (refine aIf_t ?_; conv => whnf)
      | (refine aIf_f ?_; conv => whnf)
      | (refine fun (_ : _ ≤ maxLen) => ?_; conv => whnf)
      | (refine get_nat0 (by omega) ?_; conv => whnf)
      | (refine get_int0 (by omega) ?_; conv => whnf)
      | (refine get_nat (by omega) ?_; conv => whnf)
      | (refine get_int (by omega) ?_; conv => whnf)
      | (refine aGet_in rfl ?_; conv => whnf)
      | (refine And.intro (And.intro rfl (And.intro (by kernel_rfl) (And.intro rfl (by kernel_rfl)))) (And.intro (And.intro (by omega) (And.intro (bytes_le (b := 8) rfl (by omega)) (by omega))) ?_); conv => whnf)
      | (refine And.intro (by omega) ?_; conv => whnf)
      | (refine And.intro (by rw [List.length_map]; omega) ?_; conv => whnf)
      | (refine And.intro rfl (And.intro (List.cons_ne_nil _ _) ?_); conv => whnf)
      | (refine And.intro (Nat.le_of_ble_eq_true rfl) ?_; conv => whnf)
      | (refine orNone_call _ _ rfl rfl (by decide) (by first | rfl | omega) (by first | rfl | omega) (fun _ => ?_) (fun _ => ?_) <;> conv => whnf)
      | (refine orNone_call [_, _] _ rfl rfl (by decide) (by first | rfl | omega) (by first | rfl | omega) (fun _ => ?_) (fun _ => ?_) <;> conv => whnf)
      | (refine callG_t ?_; conv => whnf)
      | (refine iSpreadOf_call (by omega) ?_; conv => whnf)
      | (refine And.intro (pureL_ints _ _) ?_; conv => whnf)
      | (refine And.intro (pureL_take _ _ _) ?_; conv => whnf)
      | (refine And.intro (pureL_cut _ _ _ _) ?_; conv => whnf)
      | (refine cut_ints ?_; conv => whnf)
      | (refine cut_marks ?_; conv => whnf)
      | (refine cut_all rfl (scalL_ints _ _) ?_; conv => whnf)
      | (refine cut_all (by simp only [List.length_map]; omega) (scalL_ints _ _) ?_; conv => whnf)
      | (refine twoNums_call ?_; conv => whnf)
      | (refine append_int rfl rfl (by first | rfl | (simp only [List.length_take, turned_length]; omega)) (by omega) (Nat.le_of_ble_eq_true rfl) ?_; conv => whnf)
      | (refine append_int3 rfl rfl rfl rfl (by omega) (Nat.le_of_ble_eq_true rfl) ?_; conv => whnf)
      | (refine iJoin_call ?_; conv => whnf)
      | (refine And.intro rfl (And.intro rfl (And.intro (by first | omega | (rw [List.length_map]; omega)) ?_)); conv => whnf)
      | (refine set_nat ?_ (by omega); conv => whnf)
      | (refine set_int ?_ (by omega); conv => whnf)
      | (refine set_bool ?_ (by omega); conv => whnf)
      | (refine set_force ?_; conv => whnf)
      | (refine get_bool0 (by omega) ?_; conv => whnf)
      | (refine And.intro (And.intro rfl (And.intro (by kernel_rfl) (And.intro rfl (by kernel_rfl)))) (And.intro (And.intro (by omega) (And.intro (bytes_le (b := 1) rfl (by omega)) (by omega))) ?_); conv => whnf)
      | (refine And.intro (And.intro (by kernel_rfl) (And.intro rfl (Nat.le_of_ble_eq_true rfl))) ?_; conv => whnf)
      | (refine And.intro (And.intro (by kernel_rfl) (by kernel_rfl)) ?_; conv => whnf)
      | (refine And.intro (by kernel_rfl) ?_; conv => whnf)
      | (refine aIf_tt (by assumption) ?_; conv => whnf)
      | (refine aIf_ff (by assumption) ?_; conv => whnf)
      | refine aIf_eqt ?_
      | refine aIf_eqf ?_
      | refine aIf_not ?_
      | (refine aIf_bself ?_; conv => whnf)
      | (refine aIf_beself ?_; conv => whnf)
      | (refine aIf_iself ?_; conv => whnf)
      | (refine aIf_decself ?_; conv => whnf)
      | (refine aIf_dec (fun _ => ?_) (fun _ => ?_) <;> conv => whnf)
      | (refine aIf_beq (fun _ => ?_) (fun _ => ?_) <;> conv => whnf)
      | (refine aIf_bne (fun _ => ?_) (fun _ => ?_) <;> conv => whnf)
      | (refine aIf_bbne (fun _ => ?_) (fun _ => ?_) <;> conv => whnf)
      | (refine aIf_bbeq (fun _ => ?_) (fun _ => ?_) <;> conv => whnf)
      | (refine aIf_in (fun _ => ?_) (fun _ => ?_) <;> conv => whnf))
    all_goals (first | (exfalso; omega) | skip)
    · refine retTB (hM := twoM_f hC) ?_ ?_ ?_ ?_ ?_
      all_goals (first | exact rfl | decide | (simp; done))
    · refine retTB (hM := twoM_f hC) ?_ ?_ ?_ ?_ ?_
      all_goals (first | exact rfl | decide | (simp; done))
end Go.Proofs.Ytgoolnkgcdmhmaa
