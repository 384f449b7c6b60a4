import Derived.Test.YtpbenelmklggcaaGreatM012x18
import Derived.Test.YtpbenelmklggcaaGreatM012x19
import Derived.Test.YtpbenelmklggcaaGreatM012x16
/- Chapter 2: TwoOf: two numbers; the program's two tensors. -/
namespace Go.Proofs.YtpbenelmklggcaaGreat
set_option maxRecDepth 20000
open Go.RowKit Go.Am
attribute [local irreducible] aPlan aGet aIf aLoop aCall RetB NextB CallB CallG aCut aSet aAppend

/-- What comes of two numbers. -/
def two (op x y : Int) : Int := if op = 0 then IntKind.i64.wrap (x + y) else if op = 1 then IntKind.i64.wrap (x - y) else if op = 2 then IntKind.i64.wrap (x * y) else if x < y then y else x
theorem two_0 {op x y : Int} (h : op = 0) : two op x y = IntKind.i64.wrap (x + y) := if_pos h
theorem two_1 {op x y : Int} (h0 : ¬ op = 0) (h : op = 1) : two op x y = IntKind.i64.wrap (x - y) := by unfold two; rw [if_neg h0, if_pos h]
theorem two_2 {op x y : Int} (h0 : ¬ op = 0) (h1 : ¬ op = 1) (h : op = 2) : two op x y = IntKind.i64.wrap (x * y) := by unfold two; rw [if_neg h0, if_neg h1, if_pos h]
theorem two_y {op x y : Int} (h0 : ¬ op = 0) (h1 : ¬ op = 1) (h2 : ¬ op = 2) (h : x < y) : two op x y = y := by unfold two; rw [if_neg h0, if_neg h1, if_neg h2, if_pos h]
theorem two_x {op x y : Int} (h0 : ¬ op = 0) (h1 : ¬ op = 1) (h2 : ¬ op = 2) (h : ¬ x < y) : two op x y = x := by unfold two; rw [if_neg h0, if_neg h1, if_neg h2, if_neg h]
theorem two_x' {op x y : Int} (h0 : ¬ op = 0) (h1 : ¬ op = 1) (h2 : ¬ op = 2) (h : y < x) : two op x y = x := two_x h0 h1 h2 (by omega)
theorem two_y' {op x y : Int} (h0 : ¬ op = 0) (h1 : ¬ op = 1) (h2 : ¬ op = 2) (h : ¬ y < x) : two op x y = y := by
  by_cases h' : x < y
  · exact two_y h0 h1 h2 h'
  · rw [two_x h0 h1 h2 h']; omega
def sTwoN : CSpec := fnS (ι := Int × Int × Int) (fun | (op, x, y) => [.int .i64 op, .int .i64 x, .int .i64 y]) (fun _ => True) (fun | (op, x, y) => .int .i64 (two op x y))
set_option maxRecDepth 10000 in
theorem twoNums_sound : Sound Tryz.prog 120 sTwoN := by
  refine sound_of Tryz.func120 rfl (enters_of Tryz.func120 (by kernel_rfl) (by kernel_rfl)) ?_
  rintro ⟨op, x, y⟩ -
  conv => whnf
  repeat' (first
    | (refine append_same ?_; conv => whnf)
    | (refine aIf_dec (fun _ => ?_) (fun _ => ?_) <;> conv => whnf))
  all_goals (first
    | exact retS rfl (congrArg _ (two_0 (by assumption)).symm)
    | exact retS rfl (congrArg _ (two_1 (by assumption) (by assumption)).symm)
    | exact retS rfl (congrArg _ (two_2 (by assumption) (by assumption) (by assumption)).symm)
    | exact retS rfl (congrArg _ (two_y (by assumption) (by assumption) (by assumption) (by assumption)).symm)
    | exact retS rfl (congrArg _ (two_x (by assumption) (by assumption) (by assumption) (by assumption)).symm))
theorem twoNums_call {op x y : Int} {env : List AV} {rows : List Row} {ctr low : Nat} {k : AV → St → Prop} (h : k (.int .i64 (two op x y)) ⟨env, rows, ctr + 1, low⟩) : CallB Tryz.prog 120 ⟨env, rows, ctr, low⟩ [.int .i64 op, .int .i64 x, .int .i64 y] k :=
  callS_in twoNums_sound (op, x, y) trivial rfl h
/-- What comes of two rows of numbers, number by number. -/
def twoL (op : Int) (us vs : List Int) : List Int := (List.range us.length).map fun j => two op (us.getD j 0) (vs.getD j 0)
theorem twoL_length (op : Int) (us vs : List Int) : (twoL op us vs).length = us.length := by simp [twoL]
theorem twoL_getD {op : Int} {us vs : List Int} {j : Nat} (h : j < us.length) : (twoL op us vs).getD j 0 = two op (us.getD j 0) (vs.getD j 0) := range_getD h
abbrev sprd (xs zs ys : List Int) : List Int := rdL zs ys (sst xs ys) 0
def twoP (op : Int) (xs zs ps qs : List Int) : Prop := tensorOk xs zs = true ∧ tensorOk ps qs = true ∧ (0 ≤ op ∧ op ≤ 3) ∧ jOk xs ps = true
instance (op : Int) (xs zs ps qs : List Int) : Decidable (twoP op xs zs ps qs) := by unfold twoP; infer_instance
def twoM (op : Int) (xs zs ps qs : List Int) : TM := if twoP op xs zs ps qs then told (jL xs ps) (twoL op (sprd xs zs (jL xs ps)) (sprd ps qs (jL xs ps))) else noT
theorem twoM_t {op : Int} {xs zs ps qs : List Int} (h : twoP op xs zs ps qs) : twoM op xs zs ps qs = told (jL xs ps) (twoL op (sprd xs zs (jL xs ps)) (sprd ps qs (jL xs ps))) := if_pos h
theorem twoM_f {op : Int} {xs zs ps qs : List Int} (h : ¬ twoP op xs zs ps qs) : twoM op xs zs ps qs = noT := if_neg h
theorem twoM_len (op : Int) (xs zs ps qs : List Int) : (twoM op xs zs ps qs).1.length ≤ 3 ∧ (twoM op xs zs ps qs).2.1.length ≤ 64 := by
  by_cases h : twoP op xs zs ps qs
  · rw [twoM_t h]; exact told_len _ _
  · rw [twoM_f h]; exact ⟨Nat.zero_le _, Nat.zero_le _⟩
theorem jOk_r {xs ps : List Int} (h : jOk xs ps = true) : jOk ps (jL xs ps) = true ∧ jL ps (jL xs ps) = jL xs ps := by
  have h' : jOk ps xs = true := by rw [jOk_comm]; exact h
  rw [jL_comm xs ps]
  exact ⟨jOk_jL h', jL_jL h'⟩
def sTwoOf : CSpec := fnTB (ι := Int × Nat × List Int × Nat × List Int × Nat × List Int × Nat × List Int) 3 (fun | (op, c, xs, d, zs, e, ps, f, qs) => [.int .i64 op, .agg [.sl c xs.length (xs.map (.int .i64)), .sl d zs.length (zs.map (.int .i64))], .agg [.sl e ps.length (ps.map (.int .i64)), .sl f qs.length (qs.map (.int .i64))]]) (fun _ => True) (fun | (op, _, xs, _, zs, _, ps, _, qs) => twoM op xs zs ps qs)
set_option maxHeartbeats 4000000 in
set_option maxRecDepth 10000 in
theorem iTwoOf_sound : Sound Tryz.prog 105 sTwoOf := by
  refine sound_of Tryz.func105 rfl (enters_of Tryz.func105 (by kernel_rfl) (by kernel_rfl)) ?_
  rintro ⟨op, c, xs, d, zs, e, ps, f, qs⟩ -
  have hmax : maxLen = 9223372036854775807 := rfl
  have hle := jL_le6 xs ps
  by_cases hop : 0 ≤ op ∧ op ≤ 3
  · cases hj : jOk xs ps with
    | false =>
      have hC : ¬ twoP op xs zs ps qs := fun h => Bool.false_ne_true (hj.symm.trans h.2.2.2)
      conv => whnf
      repeat' (first
        | (refine aIf_t ?_; conv => whnf)
        | (refine aIf_f ?_; conv => whnf)
        | (refine aGet_in rfl ?_; conv => whnf)
        | (refine And.intro (by omega) ?_; conv => whnf)
        | (refine And.intro rfl (And.intro (List.cons_ne_nil _ _) ?_); conv => whnf)
        | (refine And.intro (Nat.le_of_ble_eq_true rfl) ?_; conv => whnf)
        | (refine callG_t ?_; conv => whnf)
        | (refine append_same ?_; conv => whnf)
        | (refine takeN_in ?_; conv => whnf)
        | (refine And.intro (pureL_ints _ _) ?_; conv => whnf)
        | (refine iJoin_call ?_; conv => whnf)
        | (refine set_force ?_; conv => whnf)
        | (refine And.intro (by kernel_rfl) ?_; conv => whnf)
        | (refine aIf_ff (by assumption) ?_; conv => whnf)
        | refine aIf_eqf ?_
        | refine aIf_not ?_
        | (refine aIf_dec (fun _ => ?_) (fun _ => ?_) <;> conv => whnf))
      all_goals (first | (exfalso; omega) | skip)
      refine retTB (hM := twoM_f hC) ?_ ?_ ?_ ?_ ?_
      all_goals (first | exact rfl | decide | (simp; done))
    | true =>
      obtain ⟨r1, r2⟩ := jOk_r hj
      have b1 := jL_ok hj
      have hc := cnt64 b1 (Nat.le_refl _)
      have z1 := sp_zero' (jOk_jL hj) (jL_jL hj)
      have z2 := sp_zero' r1 r2
      have lA := (spM_len xs zs (jL xs ps)).2
      have lB := (spM_len ps qs (jL xs ps)).2
      rcases tensor_or xs zs with ⟨ht, hx, hz⟩ | ht
      · have hA := spM_t ht (by omega : ¬ spread xs (jL xs ps) 0 < 0)
        have hA2 : (spM xs zs (jL xs ps)).2.2 = true := by rw [hA]
        rcases tensor_or ps qs with ⟨hu, hy, hw⟩ | hu
        · have hB := spM_t hu (by omega : ¬ spread ps (jL xs ps) 0 < 0)
          have hB2 : (spM ps qs (jL xs ps)).2.2 = true := by rw [hB]
          have nA : (spM xs zs (jL xs ps)).2.1.length = (cntTo (jL xs ps) (jL xs ps).length).toNat := by rw [hA]; exact rdL_length _ _ _ _
          have nB : (spM ps qs (jL xs ps)).2.1.length = (cntTo (jL xs ps) (jL xs ps).length).toNat := by rw [hB]; exact rdL_length _ _ _ _
          conv => whnf
          repeat' (first
            | (refine aIf_t ?_; conv => whnf)
            | (refine aIf_f ?_; conv => whnf)
            | (refine fun (_ : _ ≤ maxLen) => ?_; conv => whnf)
            | (refine aGet_in rfl ?_; conv => whnf)
            | (refine And.intro (And.intro (Int.le_refl _) (And.intro (by kernel_rfl) (And.intro rfl (by kernel_rfl)))) (And.intro (And.intro (by omega) (And.intro (bytes_le (b := 8) rfl (by omega)) (by omega))) ?_); conv => whnf)
            | (refine And.intro (by omega) ?_; conv => whnf)
            | (refine load_same ?_; conv => whnf)
            | (refine And.intro rfl (And.intro (List.cons_ne_nil _ _) ?_); conv => whnf)
            | (refine And.intro (Nat.le_of_ble_eq_true rfl) ?_; conv => whnf)
            | (refine callG_t ?_; conv => whnf)
            | (refine iSpreadOf_call (by omega) ?_; conv => whnf)
            | (refine append_same ?_; conv => whnf)
            | (refine takeN_in ?_; conv => whnf)
            | (refine And.intro (pureL_ints _ _) ?_; conv => whnf)
            | (refine cut_ints ?_; conv => whnf)
            | (refine iJoin_call ?_; conv => whnf)
            | (refine set_force ?_; conv => whnf)
            | (refine And.intro (by kernel_rfl) ?_; conv => whnf)
            | (refine aIf_tt (by assumption) ?_; conv => whnf)
            | refine aIf_eqf ?_
            | refine aIf_not ?_
            | (refine aIf_dec (fun _ => ?_) (fun _ => ?_) <;> conv => whnf))
          all_goals (first | (exfalso; omega) | skip)
          refine loop_in (ι := Nat × List Int) (fun | (k, ws) => ⟨[.int .i64 op, .un, .un, .un, .un, .un, .ptr 4 5 0, .un, .ref 5 6 0 (jL xs ps).length, .un, .un, .un, .ptr 15 14 0, .un, .ref 16 15 0 ((spM xs zs (jL xs ps)).2.1.length : Int).toNat, .un, .un, .un, .un, .un, .un, .un, .un, .un, .un, .un, .un, .un, .un, .un, .un, .un, .un, .un, .un, .un, .un, .un, .un, .un, .un, .un, .un, .un, .un, .un, .un, .un, .un, .un, .un, .un, .un, .un, .un, .un, .un, .un, .un, .un, .ref 7 7 0 (spM xs zs (jL xs ps)).2.1.length, .int .i64 (spM xs zs (jL xs ps)).2.1.length, .int .i64 k, .un, .un, .un, .un, .un, .un, .un, .un, .un, .un, .un, .un, .un, .un, .un, .un, .un, .un, .un, .un, .un], [bt 1 [.sl c xs.length (xs.map (.int .i64)), .sl d zs.length (zs.map (.int .i64))], bt 2 [.sl e ps.length (ps.map (.int .i64)), .sl f qs.length (qs.map (.int .i64))], nl 3, nl 4, bt 5 [.ref 2 3 0 0, .ref 3 4 0 0], li 6 (jL xs ps), li 7 (spM xs zs (jL xs ps)).1, li 7 (spM xs zs (jL xs ps)).2.1, nl 8, nl 9, bt 10 [.ref 6 7 0 (spM xs zs (jL xs ps)).1.length, .ref 7 7 0 (spM xs zs (jL xs ps)).2.1.length], li 11 (spM ps qs (jL xs ps)).1, li 11 (spM ps qs (jL xs ps)).2.1, nl 12, nl 13, bt 14 [.ref 11 11 0 (spM ps qs (jL xs ps)).1.length, .ref 12 11 0 (spM ps qs (jL xs ps)).2.1.length], li 15 ws], 16, 0⟩)
            (fun x => x.1 ≤ (spM xs zs (jL xs ps)).2.1.length ∧ x.2.length = (spM xs zs (jL xs ps)).2.1.length ∧ ∀ j, j < x.1 → x.2.getD j 0 = two op ((spM xs zs (jL xs ps)).2.1.getD j 0) ((spM ps qs (jL xs ps)).2.1.getD j 0)) (fun x => (spM xs zs (jL xs ps)).2.1.length - x.1) (0, List.replicate ((spM xs zs (jL xs ps)).2.1.length : Int).toNat 0) ⟨Nat.zero_le _, by simp, fun j hj => absurd hj (Nat.not_lt_zero _)⟩ ?_ ?_
          · repeat' (first
              | exact trivial
              | exact rfl
              | exact Or.inl (And.intro rfl rfl)
              | exact le_ints rfl
              | exact le_ints (rep_ints _ _)
              | exact Or.inl (And.intro (pureL_pair _ _ _ _ _ _) rfl)
              | refine Or.inr ?_
              | refine And.intro ?_ ?_
              | exact Nat.le_of_ble_eq_true rfl)
          · rintro ⟨k, ws⟩ ⟨hk, hl, hall⟩
            have hk : k ≤ (spM xs zs (jL xs ps)).2.1.length := hk
            have hl : ws.length = (spM xs zs (jL xs ps)).2.1.length := hl
            have hall : ∀ j, j < k → ws.getD j 0 = two op ((spM xs zs (jL xs ps)).2.1.getD j 0) ((spM ps qs (jL xs ps)).2.1.getD j 0) := hall
            by_cases hlt : k < (spM xs zs (jL xs ps)).2.1.length
            · conv => whnf
              repeat' (first
                | (refine get_nat0 (by omega) ?_; conv => whnf)
                | (refine aGet_in rfl ?_; conv => whnf)
                | (refine And.intro (by omega) ?_; conv => whnf)
                | (refine orNone_call _ _ rfl rfl (by decide) (by first | rfl | omega) (by first | rfl | omega) (fun _ => ?_) (fun _ => ?_) <;> conv => whnf)
                | (refine callG_t ?_; conv => whnf)
                | (refine append_same ?_; conv => whnf)
                | (refine takeN_in ?_; conv => whnf)
                | (refine twoNums_call ?_; conv => whnf)
                | (refine And.intro rfl (And.intro rfl (And.intro (by first | omega | (rw [List.length_map]; omega)) ?_)); conv => whnf)
                | (refine set_nat ?_ (by omega); conv => whnf)
                | (refine set_force ?_; conv => whnf)
                | (refine aIf_dec (fun _ => ?_) (fun _ => ?_) <;> conv => whnf))
              all_goals (first | (exfalso; omega) | skip)
              refine next_in (k + 1, ws.set k (two op ((spM xs zs (jL xs ps)).2.1.getD k 0) ((spM ps qs (jL xs ps)).2.1.getD k 0))) (show (spM xs zs (jL xs ps)).2.1.length - (k + 1) < (spM xs zs (jL xs ps)).2.1.length - k by omega) ⟨(show k + 1 ≤ (spM xs zs (jL xs ps)).2.1.length by omega), (show (ws.set k _).length = _ by simpa using hl), fun j hj => ?_⟩ ?_
              · have hj : j < k + 1 := hj
                show (ws.set k (two op ((spM xs zs (jL xs ps)).2.1.getD k 0) ((spM ps qs (jL xs ps)).2.1.getD k 0))).getD j 0 = _
                rw [getD_set (by omega)]
                split
                · rename_i e; rw [e]
                · exact hall j (by omega)
              · repeat' (first
                  | exact trivial
                  | exact rfl
                  | exact Or.inl (And.intro rfl rfl)
                  | exact le_ints rfl
                  | exact Or.inl (And.intro (pureL_pair _ _ _ _ _ _) rfl)
                  | refine Or.inr ?_
                  | refine And.intro ?_ ?_
                  | exact Nat.le_of_ble_eq_true rfl
                  | exact int_eq (by rw [IntWalk.i64_in _ (by omega)] <;> omega))
            · have hke : k = (spM xs zs (jL xs ps)).2.1.length := by omega
              have hws : ws = twoL op (sprd xs zs (jL xs ps)) (sprd ps qs (jL xs ps)) := getD_ext (by rw [twoL_length, hl, hA]) fun j hj => by
                rw [twoL_length, rdL_length, ← nA] at hj
                rw [hall j (by omega), twoL_getD (by rw [rdL_length]; omega), hA, hB]
              have hM : twoM op xs zs ps qs = told (jL xs ps) ws := by rw [twoM_t ⟨ht, hu, hop, hj⟩, hws]
              conv => whnf
              repeat' (first
                | (refine get_nat0 (by omega) ?_; conv => whnf)
                | (refine aGet_in rfl ?_; conv => whnf)
                | (refine And.intro (by omega) ?_; conv => whnf)
                | (refine And.intro (Nat.le_of_ble_eq_true rfl) ?_; conv => whnf)
                | (refine orNone_call _ _ rfl rfl (by decide) (by first | rfl | omega) (by first | rfl | omega) (fun _ => ?_) (fun _ => ?_) <;> conv => whnf)
                | (refine callG_t ?_; conv => whnf)
                | (refine append_same ?_; conv => whnf)
                | (refine takeN_in ?_; conv => whnf)
                | (refine twoNums_call ?_; conv => whnf)
                | (refine set_nat ?_ (by omega); conv => whnf)
                | (refine set_force ?_; conv => whnf)
                | (refine And.intro (by kernel_rfl) ?_; conv => whnf)
                | (refine aIf_dec (fun _ => ?_) (fun _ => ?_) <;> conv => whnf))
              all_goals (first | (exfalso; omega) | skip)
              · rename_i hT
                refine retTB (hM := hM.trans (told_t hT)) ?_ ?_ ?_ ?_ ?_
                all_goals (first | exact rfl | decide | (simp; done))
              · rename_i hT
                refine retTB (hM := hM.trans (told_f hT)) ?_ ?_ ?_ ?_ ?_
                all_goals (first | exact rfl | decide | (simp; done))
        · have hB2 : (spM ps qs (jL xs ps)).2.2 = false := by rw [spM_f1 hu]; rfl
          have hC : ¬ twoP op xs zs ps qs := fun h => Bool.false_ne_true (hu.symm.trans h.2.1)
          conv => whnf
          repeat' (first
            | (refine aIf_t ?_; conv => whnf)
            | (refine aIf_f ?_; conv => whnf)
            | (refine aGet_in rfl ?_; conv => whnf)
            | (refine And.intro (by omega) ?_; conv => whnf)
            | (refine load_same ?_; conv => whnf)
            | (refine And.intro rfl (And.intro (List.cons_ne_nil _ _) ?_); conv => whnf)
            | (refine And.intro (Nat.le_of_ble_eq_true rfl) ?_; conv => whnf)
            | (refine callG_t ?_; conv => whnf)
            | (refine iSpreadOf_call (by omega) ?_; conv => whnf)
            | (refine append_same ?_; conv => whnf)
            | (refine takeN_in ?_; conv => whnf)
            | (refine And.intro (pureL_ints _ _) ?_; conv => whnf)
            | (refine cut_ints ?_; conv => whnf)
            | (refine iJoin_call ?_; conv => whnf)
            | (refine set_force ?_; conv => whnf)
            | (refine And.intro (by kernel_rfl) ?_; conv => whnf)
            | (refine aIf_tt (by assumption) ?_; conv => whnf)
            | (refine aIf_ff (by assumption) ?_; conv => whnf)
            | refine aIf_eqf ?_
            | refine aIf_not ?_
            | (refine aIf_dec (fun _ => ?_) (fun _ => ?_) <;> conv => whnf))
          all_goals (first | (exfalso; omega) | skip)
          refine retTB (hM := twoM_f hC) ?_ ?_ ?_ ?_ ?_
          all_goals (first | exact rfl | decide | (simp; done))
      · have hA2 : (spM xs zs (jL xs ps)).2.2 = false := by rw [spM_f1 ht]; rfl
        have hC : ¬ twoP op xs zs ps qs := fun h => Bool.false_ne_true (ht.symm.trans h.1)
        conv => whnf
        repeat' (first
          | (refine aIf_t ?_; conv => whnf)
          | (refine aIf_f ?_; conv => whnf)
          | (refine aGet_in rfl ?_; conv => whnf)
          | (refine And.intro (by omega) ?_; conv => whnf)
          | (refine load_same ?_; conv => whnf)
          | (refine And.intro rfl (And.intro (List.cons_ne_nil _ _) ?_); conv => whnf)
          | (refine And.intro (Nat.le_of_ble_eq_true rfl) ?_; conv => whnf)
          | (refine callG_t ?_; conv => whnf)
          | (refine iSpreadOf_call (by omega) ?_; conv => whnf)
          | (refine append_same ?_; conv => whnf)
          | (refine takeN_in ?_; conv => whnf)
          | (refine And.intro (pureL_ints _ _) ?_; conv => whnf)
          | (refine cut_ints ?_; conv => whnf)
          | (refine iJoin_call ?_; conv => whnf)
          | (refine set_force ?_; conv => whnf)
          | (refine And.intro (by kernel_rfl) ?_; conv => whnf)
          | (refine aIf_tt (by assumption) ?_; conv => whnf)
          | (refine aIf_ff (by assumption) ?_; conv => whnf)
          | refine aIf_eqf ?_
          | refine aIf_not ?_
          | (refine aIf_dec (fun _ => ?_) (fun _ => ?_) <;> conv => whnf))
        all_goals (first | (exfalso; omega) | skip)
        refine retTB (hM := twoM_f hC) ?_ ?_ ?_ ?_ ?_
        all_goals (first | exact rfl | decide | (simp; done))
  · have hC : ¬ twoP op xs zs ps qs := fun h => hop h.2.2.1
    conv => whnf
    repeat' (first
      | (refine aIf_t ?_; conv => whnf)
      | (refine aIf_f ?_; conv => whnf)
      | (refine fun (_ : _ ≤ maxLen) => ?_; conv => whnf)
      | (refine aGet_in rfl ?_; conv => whnf)
      | (refine And.intro (And.intro (Int.le_refl _) (And.intro (by kernel_rfl) (And.intro rfl (by kernel_rfl)))) (And.intro (And.intro (by omega) (And.intro (bytes_le (b := 8) rfl (by omega)) (by omega))) ?_); conv => whnf)
      | (refine And.intro (by omega) ?_; conv => whnf)
      | (refine load_same ?_; conv => whnf)
      | (refine And.intro rfl (And.intro (List.cons_ne_nil _ _) ?_); conv => whnf)
      | (refine And.intro (Nat.le_of_ble_eq_true rfl) ?_; conv => whnf)
      | (refine callG_t ?_; conv => whnf)
      | (refine iSpreadOf_call (by omega) ?_; conv => whnf)
      | (refine append_same ?_; conv => whnf)
      | (refine takeN_in ?_; conv => whnf)
      | (refine And.intro (pureL_ints _ _) ?_; conv => whnf)
      | (refine cut_ints ?_; conv => whnf)
      | (refine iJoin_call ?_; conv => whnf)
      | (refine set_force ?_; conv => whnf)
      | (refine And.intro (by kernel_rfl) ?_; conv => whnf)
      | refine aIf_eqf ?_
      | refine aIf_not ?_
      | (refine aIf_dec (fun _ => ?_) (fun _ => ?_) <;> conv => whnf)
      | (refine aIf_in (fun _ => ?_) (fun _ => ?_) <;> conv => whnf))
    all_goals (first | (exfalso; omega) | skip)
    · refine retTB (hM := twoM_f hC) ?_ ?_ ?_ ?_ ?_
      all_goals (first | exact rfl | decide | (simp; done))
    · refine retTB (hM := twoM_f hC) ?_ ?_ ?_ ?_ ?_
      all_goals (first | exact rfl | decide | (simp; done))
end Go.Proofs.YtpbenelmklggcaaGreat

/- Chapter 2: TwoOf of the model. -/
namespace Go.Proofs.YtpbenelmklggcaaGreat
set_option maxRecDepth 20000
open Go.RowKit Go.Am
attribute [local irreducible] aPlan aGet aIf aLoop aCall RetB NextB CallB CallG aCut aSet aAppend

/-- What comes of two tensors, if their shapes go together. -/
def ltM (op : Int) (xs zs ps qs : List Int) : TM := if jOk xs ps = true then (jL xs ps, twoL op (sprd xs zs (jL xs ps)) (sprd ps qs (jL xs ps)), true) else noT
theorem ltM_t {op : Int} {xs zs ps qs : List Int} (h : jOk xs ps = true) : ltM op xs zs ps qs = (jL xs ps, twoL op (sprd xs zs (jL xs ps)) (sprd ps qs (jL xs ps)), true) := if_pos h
theorem ltM_f {op : Int} {xs zs ps qs : List Int} (h : jOk xs ps = false) : ltM op xs zs ps qs = noT := if_neg (by rw [h]; exact Bool.false_ne_true)
def sL2Two : CSpec := fnTB (ι := Int × Nat × List Int × Nat × List Int × Nat × List Int × Nat × List Int) 3 (fun | (op, c, xs, d, zs, e, ps, f, qs) => [.int .i64 op, .agg [.sl c xs.length (xs.map (.int .i64)), .sl d zs.length (zs.map (.int .i64))], .agg [.sl e ps.length (ps.map (.int .i64)), .sl f qs.length (qs.map (.int .i64))]]) (fun | (_, _, xs, _, zs, _, ps, _, qs) => tensorOk xs zs = true ∧ tensorOk ps qs = true) (fun | (op, _, xs, _, zs, _, ps, _, qs) => ltM op xs zs ps qs)
theorem ltM_len (op : Int) (xs zs ps qs : List Int) : (ltM op xs zs ps qs).1.length ≤ 3 ∧ (ltM op xs zs ps qs).2.1.length ≤ 64 := by
  cases h : jOk xs ps with
  | true =>
    have b1 := jL_ok h
    have b3 := ((shapeOk_iff _).1 b1).1
    have hc := cnt64 b1 (Nat.le_refl _)
    rw [ltM_t h]
    exact ⟨b3, by show (twoL op (sprd xs zs (jL xs ps)) (sprd ps qs (jL xs ps))).length ≤ 64; rw [twoL_length, rdL_length]; omega⟩
  | false => rw [ltM_f h]; exact ⟨Nat.zero_le _, Nat.zero_le _⟩
theorem iTwoOf_call {op : Int} {c d e f : Nat} {xs zs ps qs : List Int} {env : List AV} {rows : List Row} {ctr low : Nat} {k : AV → St → Prop} (hpre : True)
    (hk : k (.tup [.agg [.ref rows.length ctr 0 (twoM op xs zs ps qs).1.length, .ref (rows.length + 1) ctr 0 (twoM op xs zs ps qs).2.1.length], .bool (twoM op xs zs ps qs).2.2]) ⟨env, rows ++ [⟨ctr, 3, 1, (twoM op xs zs ps qs).1.map (.int .i64)⟩, ⟨ctr, 3, 1, (twoM op xs zs ps qs).2.1.map (.int .i64)⟩], ctr + 1, low⟩) :
    CallB Tryz.prog 105 ⟨env, rows, ctr, low⟩ [.int .i64 op, .agg [.sl c xs.length (xs.map (.int .i64)), .sl d zs.length (zs.map (.int .i64))], .agg [.sl e ps.length (ps.map (.int .i64)), .sl f qs.length (qs.map (.int .i64))]] k := callTB_in iTwoOf_sound (op, c, xs, d, zs, e, ps, f, qs) hpre hk
end Go.Proofs.YtpbenelmklggcaaGreat

/- Chapter 2: ProductOf of the program. -/
namespace Go.Proofs.YtpbenelmklggcaaGreat
set_option maxRecDepth 20000
open Go.RowKit Go.Am
attribute [local irreducible] aPlan aGet aIf aLoop aCall RetB NextB CallB CallG aCut aSet aAppend

/-- The sum of the products of a row and a column, as far as k. -/
def dotT (zs qs : List Int) (m c i j : Nat) : Nat → Int
  | 0 => 0
  | k + 1 => IntKind.i64.wrap (dotT zs qs m c i j k + IntKind.i64.wrap (zs.getD (i * m + k) 0 * qs.getD (k * c + j) 0))
def prL (zs qs : List Int) (r m c : Nat) : List Int := (List.range (r * c)).map fun i => dotT zs qs m c (i / c) (i % c) m
theorem prL_length (zs qs : List Int) (r m c : Nat) : (prL zs qs r m c).length = r * c := by simp [prL]
theorem prL_getD {zs qs : List Int} {r m c j : Nat} (h : j < r * c) : (prL zs qs r m c).getD j 0 = dotT zs qs m c (j / c) (j % c) m := range_getD h
def prP (xs zs ps qs : List Int) : Prop := tensorOk xs zs = true ∧ tensorOk ps qs = true ∧ xs.length = 2 ∧ ps.length = 2 ∧ xs.getD 1 0 = ps.getD 0 0
instance (xs zs ps qs : List Int) : Decidable (prP xs zs ps qs) := by unfold prP; infer_instance
def prM (xs zs ps qs : List Int) : TM := if prP xs zs ps qs then told [xs.getD 0 0, ps.getD 1 0] (prL zs qs (xs.getD 0 0).toNat (xs.getD 1 0).toNat (ps.getD 1 0).toNat) else noT
theorem prM_t {xs zs ps qs : List Int} (h : prP xs zs ps qs) : prM xs zs ps qs = told [xs.getD 0 0, ps.getD 1 0] (prL zs qs (xs.getD 0 0).toNat (xs.getD 1 0).toNat (ps.getD 1 0).toNat) := if_pos h
theorem prM_f {xs zs ps qs : List Int} (h : ¬ prP xs zs ps qs) : prM xs zs ps qs = noT := if_neg h
theorem prM_len (xs zs ps qs : List Int) : (prM xs zs ps qs).1.length ≤ 3 ∧ (prM xs zs ps qs).2.1.length ≤ 64 := by
  by_cases h : prP xs zs ps qs
  · rw [prM_t h]; exact told_len _ _
  · rw [prM_f h]; exact ⟨Nat.zero_le _, Nat.zero_le _⟩
theorem pix {r m i k : Nat} (hi : i < r) (hk : k < m) : i * m + k < r * m := by
  have h1 : (i + 1) * m ≤ r * m := Nat.mul_le_mul_right m hi
  rw [Nat.add_mul, Nat.one_mul] at h1
  omega
/-- What sizes and counts are of two tensors of two axes. -/
structure PrF (xs zs ps qs : List Int) (r m c : Nat) : Prop where
  e0 : xs.getD 0 0 = r
  e1 : xs.getD 1 0 = m
  e2 : ps.getD 0 0 = m
  e3 : ps.getD 1 0 = c
  r4 : 1 ≤ r ∧ r ≤ 4
  m4 : 1 ≤ m ∧ m ≤ 4
  c4 : 1 ≤ c ∧ c ≤ 4
  nz : zs.length = r * m
  nq : qs.length = m * c
theorem cnt2 {xs : List Int} (h : shapeOk xs = true) (h2 : xs.length = 2) : cntTo xs xs.length = xs.getD 0 0 * xs.getD 1 0 := by
  rw [h2, cnt_next h (k := 1) (by omega), cnt_next h (k := 0) (by omega)]
  have e : cntTo xs 0 = 1 := rfl
  rw [e, Int.one_mul]
theorem prF {xs zs ps qs : List Int} (h : prP xs zs ps qs) : ∃ r m c, PrF xs zs ps qs r m c := by
  obtain ⟨h1, h2, h3, h4, h5⟩ := h
  obtain ⟨s1, t1, _⟩ := (tensorOk_iff _ _).1 h1
  obtain ⟨s2, t2, _⟩ := (tensorOk_iff _ _).1 h2
  have z0 := size_in s1 (j := 0) (by omega)
  have z1 := size_in s1 (j := 1) (by omega)
  have z3 := size_in s2 (j := 1) (by omega)
  rw [cnt2 s1 h3] at t1
  rw [cnt2 s2 h4, ← h5] at t2
  obtain ⟨r, hr⟩ : ∃ r : Nat, xs.getD 0 0 = r := ⟨(xs.getD 0 0).toNat, by omega⟩
  obtain ⟨m, hm⟩ : ∃ m : Nat, xs.getD 1 0 = m := ⟨(xs.getD 1 0).toNat, by omega⟩
  obtain ⟨c, hc⟩ : ∃ c : Nat, ps.getD 1 0 = c := ⟨(ps.getD 1 0).toNat, by omega⟩
  rw [hr, hm, ← Int.natCast_mul] at t1
  rw [hm, hc, ← Int.natCast_mul] at t2
  exact ⟨r, m, c, hr, hm, by rw [← h5, hm], hc, by omega, by omega, by omega, by omega, by omega⟩
def sProductOf : CSpec := fnTB (ι := Nat × List Int × Nat × List Int × Nat × List Int × Nat × List Int) 3 (fun | (c, xs, d, zs, e, ps, f, qs) => [.agg [.sl c xs.length (xs.map (.int .i64)), .sl d zs.length (zs.map (.int .i64))], .agg [.sl e ps.length (ps.map (.int .i64)), .sl f qs.length (qs.map (.int .i64))]]) (fun _ => True) (fun | (_, xs, _, zs, _, ps, _, qs) => prM xs zs ps qs)
set_option maxHeartbeats 4000000 in
set_option maxRecDepth 10000 in
theorem iProductOf_sound : Sound Tryz.prog 104 sProductOf := by
  refine sound_of Tryz.func104 rfl (enters_of Tryz.func104 (by kernel_rfl) (by kernel_rfl)) ?_
  rintro ⟨cc, xs, d, zs, e, ps, f, qs⟩ -
  have hmax : maxLen = 9223372036854775807 := rfl
  by_cases hP : prP xs zs ps qs
  · have hP' := hP
    obtain ⟨ht, hu, h3, h4, h5⟩ := hP'
    obtain ⟨r, m, c, F⟩ := prF hP
    obtain ⟨e0, e1, e2, e3, r4, m4, c4, nz, nq⟩ := F
    have hM := prM_t hP
    rw [e0, e1, e3] at hM
    have hrc : r * c ≤ 16 := Nat.mul_le_mul r4.2 c4.2
    have g0 : xs.getD (Int.toNat 0) 0 = r := e0
    have g1 : xs.getD (Int.toNat 1) 0 = m := e1
    have g3 : ps.getD (Int.toNat 1) 0 = c := e3
    have g5 : ps.getD (Int.toNat 0) 0 = xs.getD (Int.toNat 1) 0 := h5.symm
    have hw : IntKind.i64.wrap (xs.getD (Int.toNat 0) 0 * ps.getD (Int.toNat 1) 0) = ((r * c : Nat) : Int) := by rw [g0, g3, ← Int.natCast_mul]; exact IntWalk.i64_in _ (by omega)
    have hwn : (IntKind.i64.wrap (xs.getD (Int.toNat 0) 0 * ps.getD (Int.toNat 1) 0)).toNat = r * c := by rw [hw]; rfl
    conv => whnf
    repeat' (first
      | (refine plan_in (id := 17) [0, 1, 2, 3, 4, 5, 6, 7, 8, 9, 10, 11, 12, 13, 14, 15, 16, 17, 18, 19, 20, 21, 22, 23, 24, 25] (by kernel_rfl) (by kernel_rfl) ?_; conv => whnf)
      | (refine aIf_t ?_; conv => whnf)
      | (refine aIf_f ?_; conv => whnf)
      | (refine fun (_ : _ ≤ maxLen) => ?_; conv => whnf)
      | (refine get_int (by omega) ?_; conv => whnf)
      | (refine aGet_in rfl ?_; conv => whnf)
      | (refine And.intro (And.intro (Int.le_refl _) (And.intro (by kernel_rfl) (And.intro rfl (by kernel_rfl)))) (And.intro (And.intro (by omega) (And.intro (bytes_le (b := 8) rfl (by omega)) (by omega))) ?_); conv => whnf)
      | (refine And.intro (by omega) ?_; conv => whnf)
      | (refine load_same ?_; conv => whnf)
      | (refine And.intro rfl (And.intro (List.cons_ne_nil _ _) ?_); conv => whnf)
      | (refine And.intro (Nat.le_of_ble_eq_true rfl) ?_; conv => whnf)
      | (refine callG_t ?_; conv => whnf)
      | (refine iTensorOk_call ?_; conv => whnf)
      | (refine append_same ?_; conv => whnf)
      | (refine takeN_in ?_; conv => whnf)
      | (refine And.intro (pureL_ints _ _) ?_; conv => whnf)
      | (refine set_force ?_; conv => whnf)
      | (refine And.intro (by kernel_rfl) ?_; conv => whnf)
      | (refine aIf_tt (by assumption) ?_; conv => whnf)
      | refine aIf_eqf ?_
      | refine aIf_not ?_
      | (refine aIf_dec (fun _ => ?_) (fun _ => ?_) <;> conv => whnf))
    all_goals (first | (exfalso; omega) | skip)
    rw [hwn]
    refine loop_in (ι := Nat × List Int) (fun | (k, ws) => ⟨[.un, .un, .ptr 0 1 0, .ptr 1 2 0, .ptr 4 5 0, .un, .int .i64 r, .int .i64 m, .int .i64 c, .ref 5 8 0 (r * c), .un, .un, .un, .un, .un, .un, .un, .un, .un, .un, .un, .un, .un, .un, .un, .un, .un, .un, .un, .un, .un, .un, .un, .un, .un, .un, .un, .un, .un, .un, .un, .un, .un, .un, .un, .un, .un, .un, .un, .un, .un, .un, .un, .un, .un, .un, .un, .un, .un, .int .i64 ((r * c : Nat) : Int), .int .i64 k, .un, .un, .un, .un, .un, .un, .un, .un, .un, .un, .un, .un, .un, .un, .un, .un, .un, .un, .un, .un, .un, .un, .un, .un, .un, .un, .un, .un, .un, .un, .un, .un, .un, .un, .un, .un, .un, .un, .un, .un, .un, .un, .un, .un, .un, .un], [bt 1 [.sl cc xs.length (xs.map (.int .i64)), .sl d zs.length (zs.map (.int .i64))], bt 2 [.sl e ps.length (ps.map (.int .i64)), .sl f qs.length (qs.map (.int .i64))], nl 3, nl 4, bt 5 [.ref 2 3 0 0, .ref 3 4 0 0], li 8 ws], 9, 0⟩)
      (fun x => x.1 ≤ r * c ∧ x.2.length = r * c ∧ ∀ j, j < r * c → x.2.getD j 0 = if j < x.1 then dotT zs qs m c (j / c) (j % c) m else 0) (fun x => r * c - x.1) (0, List.replicate (r * c) 0) ⟨Nat.zero_le _, by simp, fun j hj => ?_⟩ ?_ ?_
    · show (List.replicate (r * c) (0 : Int)).getD j 0 = if j < 0 then _ else 0
      rw [if_neg (Nat.not_lt_zero j)]
      simp [List.getD, hj]
    · repeat' (first
        | exact trivial
        | exact rfl
        | exact Or.inl (And.intro rfl rfl)
        | exact le_ints (rep_ints _ _)
        | exact Or.inl (And.intro (pureL_pair _ _ _ _ _ _) rfl)
        | refine Or.inr ?_
        | refine And.intro ?_ ?_
        | exact Nat.le_of_ble_eq_true rfl
        | exact int_eq (by assumption))
    · rintro ⟨k, ws⟩ ⟨hk, hl, hall⟩
      have hk : k ≤ r * c := hk
      have hl : ws.length = r * c := hl
      have hall : ∀ j, j < r * c → ws.getD j 0 = if j < k then dotT zs qs m c (j / c) (j % c) m else 0 := hall
      by_cases hlt : k < r * c
      · have hwk : ws.getD k 0 = 0 := by rw [hall k hlt, if_neg (Nat.lt_irrefl k)]
        have d1 : k / c < r := Nat.div_lt_of_lt_mul (by rw [Nat.mul_comm]; exact hlt)
        have d2 : k % c < c := Nat.mod_lt _ (by omega)
        have d3 : k / c ≤ k := Nat.div_le_self _ _
        have q1 : IntKind.i64.wrap ((k : Int).tdiv (c : Int)) = ((k / c : Nat) : Int) := by
          rw [← Int.ofNat_tdiv]
          generalize k / c = y at d3 ⊢
          exact IntWalk.i64_in _ (by omega)
        have q2 : (k : Int).tmod (c : Int) = ((k % c : Nat) : Int) := by rw [← Int.ofNat_tmod]
        have hset : ws.set k (dotT zs qs m c (k / c) (k % c) 0) = ws := getD_ext (by simp) fun j hj => by
          rw [getD_set (by omega)]
          split
          · rename_i e'; subst e'; exact hwk.symm
          · rfl
        conv => whnf
        repeat' (first
          | (refine plan_in (id := 17) [0, 1, 2, 3, 4, 5, 6, 7, 8, 9, 10, 11, 12, 13, 14, 15, 16, 17, 18, 19, 20, 21, 22, 23, 24, 25] (by kernel_rfl) (by kernel_rfl) ?_; conv => whnf)
          | (refine aGet_in rfl ?_; conv => whnf)
          | (refine And.intro (by omega) ?_; conv => whnf)
          | (refine orNone_call [_, _] _ rfl rfl (by decide) (by first | rfl | omega) (by first | rfl | omega) (fun _ => ?_) (fun _ => ?_) <;> conv => whnf)
          | (refine append_same ?_; conv => whnf)
          | (refine takeN_in ?_; conv => whnf)
          | (refine set_force ?_; conv => whnf)
          | (refine aIf_dec (fun _ => ?_) (fun _ => ?_) <;> conv => whnf))
        all_goals (first | (exfalso; omega) | skip)
        refine loop_in (ι := Nat) (fun q => ⟨[.un, .un, .ptr 0 1 0, .ptr 1 2 0, .ptr 4 5 0, .un, .int .i64 r, .int .i64 m, .int .i64 c, .ref 5 8 0 (r * c), .int .i64 k, .int .i64 ((k / c : Nat) : Int), .int .i64 ((k % c : Nat) : Int), .un, .un, .un, .un, .un, .un, .un, .un, .un, .un, .un, .un, .un, .un, .un, .un, .un, .un, .un, .un, .un, .un, .un, .un, .un, .un, .un, .un, .un, .un, .un, .un, .un, .un, .un, .un, .un, .un, .un, .un, .un, .un, .un, .un, .un, .un, .int .i64 ((r * c : Nat) : Int), .int .i64 k, .un, .un, .un, .un, .un, .un, .un, .un, .int .i64 m, .int .i64 q, .un, .un, .un, .un, .un, .un, .un, .un, .un, .un, .un, .un, .un, .un, .un, .un, .un, .un, .un, .un, .un, .un, .un, .un, .un, .un, .un, .un, .un, .un, .un, .un, .un, .un, .un, .un], [bt 1 [.sl cc xs.length (xs.map (.int .i64)), .sl d zs.length (zs.map (.int .i64))], bt 2 [.sl e ps.length (ps.map (.int .i64)), .sl f qs.length (qs.map (.int .i64))], nl 3, nl 4, bt 5 [.ref 2 3 0 0, .ref 3 4 0 0], li 8 (ws.set k (dotT zs qs m c (k / c) (k % c) q))], 9, 0⟩)
          (fun q => q ≤ m) (fun q => m - q) 0 (Nat.zero_le _) ?_ ?_
        · repeat' (first
            | exact trivial
            | exact rfl
            | exact Or.inl (And.intro rfl rfl)
            | exact Or.inl (And.intro (pureL_pair _ _ _ _ _ _) rfl)
            | refine le_ints ?_
            | refine Or.inr ?_
            | refine And.intro ?_ ?_
            | exact Nat.le_of_ble_eq_true rfl
            | exact int_eq (by assumption))
          all_goals exact congrArg (List.map (AV.int .i64)) hset.symm
        · intro q hq
          have hq : q ≤ m := hq
          have hls : (ws.set k (dotT zs qs m c (k / c) (k % c) q)).length = r * c := by rw [List.length_set]; exact hl
          by_cases hqm : q < m
          · have p1 := pix d1 hqm
            have p2 := pix hqm d2
            have b1 : r * m ≤ 16 := Nat.mul_le_mul r4.2 m4.2
            have b2 : m * c ≤ 16 := Nat.mul_le_mul m4.2 c4.2
            have i1 : IntKind.i64.wrap (IntKind.i64.wrap (((k / c : Nat) : Int) * (m : Int)) + (q : Int)) = ((k / c * m + q : Nat) : Int) := by
              rw [← Int.natCast_mul]
              generalize k / c * m = y at p1 ⊢
              rw [IntWalk.i64_in (y : Int) (by omega)]
              exact (IntWalk.i64_in _ (by omega)).trans (by omega)
            have i2 : IntKind.i64.wrap (IntKind.i64.wrap ((q : Int) * (c : Int)) + ((k % c : Nat) : Int)) = ((q * c + k % c : Nat) : Int) := by
              rw [← Int.natCast_mul]
              generalize q * c = y at p2 ⊢
              generalize k % c = z at p2 ⊢
              rw [IntWalk.i64_in (y : Int) (by omega)]
              exact (IntWalk.i64_in _ (by omega)).trans (by omega)
            have hnx : (ws.set k (dotT zs qs m c (k / c) (k % c) q)).set k (IntKind.i64.wrap ((ws.set k (dotT zs qs m c (k / c) (k % c) q)).getD k 0 + IntKind.i64.wrap (zs.getD (IntKind.i64.wrap (IntKind.i64.wrap (((k / c : Nat) : Int) * (m : Int)) + (q : Int))).toNat 0 * qs.getD (IntKind.i64.wrap (IntKind.i64.wrap ((q : Int) * (c : Int)) + ((k % c : Nat) : Int))).toNat 0))) = ws.set k (dotT zs qs m c (k / c) (k % c) (q + 1)) := by
              rw [i1, i2, Int.toNat_natCast, Int.toNat_natCast, getD_set (by omega), if_pos rfl, List.set_set]
              rfl
            conv => whnf
            repeat' (first
              | (refine plan_in (id := 17) [0, 1, 2, 3, 4, 5, 6, 7, 8, 9, 10, 11, 12, 13, 14, 15, 16, 17, 18, 19, 20, 21, 22, 23, 24, 25] (by kernel_rfl) (by kernel_rfl) ?_; conv => whnf)
              | (refine get_nat0 (by omega) ?_; conv => whnf)
              | (refine get_int (by omega) ?_; conv => whnf)
              | (refine aGet_in rfl ?_; conv => whnf)
              | (refine And.intro (by omega) ?_; conv => whnf)
              | (refine append_same ?_; conv => whnf)
              | (refine And.intro rfl (And.intro rfl (And.intro (by first | omega | (rw [List.length_map]; omega)) ?_)); conv => whnf)
              | (refine set_nat ?_ (by omega); conv => whnf)
              | (refine aIf_dec (fun _ => ?_) (fun _ => ?_) <;> conv => whnf))
            all_goals (first | (exfalso; omega) | skip)
            rw [hnx]
            refine next_in (q + 1) (show m - (q + 1) < m - q by omega) (show q + 1 ≤ m by omega) ?_
            repeat' (first
              | exact trivial
              | exact rfl
              | exact Or.inl (And.intro rfl rfl)
              | exact le_ints rfl
              | exact Or.inl (And.intro (pureL_pair _ _ _ _ _ _) rfl)
              | refine Or.inr ?_
              | refine And.intro ?_ ?_
              | exact Nat.le_of_ble_eq_true rfl
              | exact int_eq (by rw [IntWalk.i64_in _ (by omega)] <;> omega))
          · have hqe : q = m := by omega
            subst hqe
            conv => whnf
            repeat' (first
              | (refine plan_in (id := 17) [0, 1, 2, 3, 4, 5, 6, 7, 8, 9, 10, 11, 12, 13, 14, 15, 16, 17, 18, 19, 20, 21, 22, 23, 24, 25] (by kernel_rfl) (by kernel_rfl) ?_; conv => whnf)
              | (refine get_nat0 (by omega) ?_; conv => whnf)
              | (refine get_nat (by omega) ?_; conv => whnf)
              | (refine aGet_in rfl ?_; conv => whnf)
              | (refine And.intro (by omega) ?_; conv => whnf)
              | (refine append_same ?_; conv => whnf)
              | (refine set_nat ?_ (by omega); conv => whnf)
              | (refine aIf_dec (fun _ => ?_) (fun _ => ?_) <;> conv => whnf))
            all_goals (first | (exfalso; omega) | skip)
            refine next_in (k + 1, ws.set k (dotT zs qs q c (k / c) (k % c) q)) (show r * c - (k + 1) < r * c - k by omega) ⟨(show k + 1 ≤ r * c by omega), hls, fun j hj => ?_⟩ ?_
            · show (ws.set k (dotT zs qs q c (k / c) (k % c) q)).getD j 0 = if j < k + 1 then _ else _
              rw [getD_set (by omega)]
              split
              · rename_i e'; subst e'; rw [if_pos (by omega)]
              · rw [hall j hj]
                by_cases h : j < k
                · rw [if_pos h, if_pos (by omega)]
                · rw [if_neg h, if_neg (by omega)]
            · repeat' (first
                | exact trivial
                | exact rfl
                | exact Or.inl (And.intro rfl rfl)
                | exact le_ints rfl
                | exact Or.inl (And.intro (pureL_pair _ _ _ _ _ _) rfl)
                | refine Or.inr ?_
                | refine And.intro ?_ ?_
                | exact Nat.le_of_ble_eq_true rfl
                | exact int_eq (by rw [IntWalk.i64_in _ (by omega)] <;> omega))
      · have hws : ws = prL zs qs r m c := getD_ext (by rw [prL_length, hl]) fun j hj => by
          rw [prL_length] at hj
          rw [hall j hj, if_pos (by omega), prL_getD hj]
        have hM' : prM xs zs ps qs = told [(r : Int), (c : Int)] ws := by rw [hM, hws]; rfl
        conv => whnf
        repeat' (first
          | (refine plan_in (id := 17) [0, 1, 2, 3, 4, 5, 6, 7, 8, 9, 10, 11, 12, 13, 14, 15, 16, 17, 18, 19, 20, 21, 22, 23, 24, 25] (by kernel_rfl) (by kernel_rfl) ?_; conv => whnf)
          | (refine aGet_in rfl ?_; conv => whnf)
          | (refine And.intro (by omega) ?_; conv => whnf)
          | (refine And.intro (Nat.le_of_ble_eq_true rfl) ?_; conv => whnf)
          | (refine orNone_call [_, _] _ rfl rfl (by decide) (by first | rfl | omega) (by first | rfl | omega) (fun _ => ?_) (fun _ => ?_) <;> conv => whnf)
          | (refine append_same ?_; conv => whnf)
          | (refine takeN_in ?_; conv => whnf)
          | (refine set_force ?_; conv => whnf)
          | (refine And.intro (And.intro (by kernel_rfl) (And.intro rfl (Nat.le_of_ble_eq_true rfl))) ?_; conv => whnf)
          | (refine And.intro (by kernel_rfl) ?_; conv => whnf)
          | (refine aIf_dec (fun _ => ?_) (fun _ => ?_) <;> conv => whnf))
        all_goals (first | (exfalso; omega) | skip)
        · rename_i hT
          refine retTB (hM := hM'.trans (told_t hT)) ?_ ?_ ?_ ?_ ?_
          all_goals (first | exact rfl | decide | (simp; done))
        · rename_i hT
          refine retTB (hM := hM'.trans (told_f hT)) ?_ ?_ ?_ ?_ ?_
          all_goals (first | exact rfl | decide | (simp; done))
  · rcases tensor_or xs zs with ⟨ht, hx, hz⟩ | ht
    · rcases tensor_or ps qs with ⟨hu, hy, hw⟩ | hu
      · have hQ : ¬ (xs.length = 2 ∧ ps.length = 2 ∧ ps.getD (Int.toNat 0) 0 = xs.getD (Int.toNat 1) 0) := fun h => hP ⟨ht, hu, h.1, h.2.1, h.2.2.symm⟩
        conv => whnf
        repeat' (first
          | (refine plan_in (id := 17) [0, 1, 2, 3, 4, 5, 6, 7, 8, 9, 10, 11, 12, 13, 14, 15, 16, 17, 18, 19, 20, 21, 22, 23, 24, 25] (by kernel_rfl) (by kernel_rfl) ?_; conv => whnf)
          | (refine aIf_t ?_; conv => whnf)
          | (refine aIf_f ?_; conv => whnf)
          | (refine fun (_ : _ ≤ maxLen) => ?_; conv => whnf)
          | (refine get_int (by omega) ?_; conv => whnf)
          | (refine aGet_in rfl ?_; conv => whnf)
          | (refine And.intro (And.intro (Int.le_refl _) (And.intro (by kernel_rfl) (And.intro rfl (by kernel_rfl)))) (And.intro (And.intro (by omega) (And.intro (bytes_le (b := 8) rfl (by omega)) (by omega))) ?_); conv => whnf)
          | (refine And.intro (by omega) ?_; conv => whnf)
          | (refine load_same ?_; conv => whnf)
          | (refine And.intro rfl (And.intro (List.cons_ne_nil _ _) ?_); conv => whnf)
          | (refine And.intro (Nat.le_of_ble_eq_true rfl) ?_; conv => whnf)
          | (refine callG_t ?_; conv => whnf)
          | (refine iTensorOk_call ?_; conv => whnf)
          | (refine append_same ?_; conv => whnf)
          | (refine takeN_in ?_; conv => whnf)
          | (refine And.intro (pureL_ints _ _) ?_; conv => whnf)
          | (refine set_force ?_; conv => whnf)
          | (refine And.intro (by kernel_rfl) ?_; conv => whnf)
          | (refine aIf_tt (by assumption) ?_; conv => whnf)
          | refine aIf_eqf ?_
          | refine aIf_not ?_
          | (refine aIf_dec (fun _ => ?_) (fun _ => ?_) <;> conv => whnf))
        all_goals (first | (exfalso; omega) | skip)
        all_goals (refine retTB (hM := prM_f hP) ?_ ?_ ?_ ?_ ?_ <;> first | exact rfl | decide | (simp; done))
      · conv => whnf
        repeat' (first
          | (refine plan_in (id := 17) [0, 1, 2, 3, 4, 5, 6, 7, 8, 9, 10, 11, 12, 13, 14, 15, 16, 17, 18, 19, 20, 21, 22, 23, 24, 25] (by kernel_rfl) (by kernel_rfl) ?_; conv => whnf)
          | (refine aIf_t ?_; conv => whnf)
          | (refine aIf_f ?_; conv => whnf)
          | (refine load_same ?_; conv => whnf)
          | (refine And.intro rfl (And.intro (List.cons_ne_nil _ _) ?_); conv => whnf)
          | (refine And.intro (Nat.le_of_ble_eq_true rfl) ?_; conv => whnf)
          | (refine callG_t ?_; conv => whnf)
          | (refine iTensorOk_call ?_; conv => whnf)
          | (refine append_same ?_; conv => whnf)
          | (refine takeN_in ?_; conv => whnf)
          | (refine And.intro (pureL_ints _ _) ?_; conv => whnf)
          | (refine set_force ?_; conv => whnf)
          | (refine And.intro (by kernel_rfl) ?_; conv => whnf)
          | (refine aIf_tt (by assumption) ?_; conv => whnf)
          | (refine aIf_ff (by assumption) ?_; conv => whnf)
          | refine aIf_eqf ?_
          | refine aIf_not ?_)
        all_goals (first | (exfalso; omega) | skip)
        all_goals (refine retTB (hM := prM_f hP) ?_ ?_ ?_ ?_ ?_ <;> first | exact rfl | decide | (simp; done))
    · conv => whnf
      repeat' (first
        | (refine plan_in (id := 17) [0, 1, 2, 3, 4, 5, 6, 7, 8, 9, 10, 11, 12, 13, 14, 15, 16, 17, 18, 19, 20, 21, 22, 23, 24, 25] (by kernel_rfl) (by kernel_rfl) ?_; conv => whnf)
        | (refine aIf_t ?_; conv => whnf)
        | (refine aIf_f ?_; conv => whnf)
        | (refine load_same ?_; conv => whnf)
        | (refine And.intro rfl (And.intro (List.cons_ne_nil _ _) ?_); conv => whnf)
        | (refine And.intro (Nat.le_of_ble_eq_true rfl) ?_; conv => whnf)
        | (refine callG_t ?_; conv => whnf)
        | (refine iTensorOk_call ?_; conv => whnf)
        | (refine append_same ?_; conv => whnf)
        | (refine takeN_in ?_; conv => whnf)
        | (refine And.intro (pureL_ints _ _) ?_; conv => whnf)
        | (refine set_force ?_; conv => whnf)
        | (refine And.intro (by kernel_rfl) ?_; conv => whnf)
        | (refine aIf_ff (by assumption) ?_; conv => whnf)
        | refine aIf_eqf ?_
        | refine aIf_not ?_)
      all_goals (first | (exfalso; omega) | skip)
      all_goals (refine retTB (hM := prM_f hP) ?_ ?_ ?_ ?_ ?_ <;> first | exact rfl | decide | (simp; done))
end Go.Proofs.YtpbenelmklggcaaGreat

/- Chapter 2: ProductOf of the model. -/
namespace Go.Proofs.YtpbenelmklggcaaGreat
set_option maxRecDepth 20000
open Go.RowKit Go.Am
attribute [local irreducible] aPlan aGet aIf aLoop aCall RetB NextB CallB CallG aCut aSet aAppend

def sL2Product : CSpec := fnT (ι := Nat × List Int × Nat × List Int × Nat × List Int × Nat × List Int) 3 (fun | (c, xs, d, zs, e, ps, f, qs) => [.agg [.sl c xs.length (xs.map (.int .i64)), .sl d zs.length (zs.map (.int .i64))], .agg [.sl e ps.length (ps.map (.int .i64)), .sl f qs.length (qs.map (.int .i64))]]) (fun | (_, xs, _, zs, _, ps, _, qs) => prP xs zs ps qs) (fun | (_, xs, _, _, _, ps, _, _) => [xs.getD 0 0, ps.getD 1 0]) (fun | (_, xs, _, zs, _, ps, _, qs) => prL zs qs (xs.getD 0 0).toNat (xs.getD 1 0).toNat (ps.getD 1 0).toNat)
end Go.Proofs.YtpbenelmklggcaaGreat

/- Chapter 2: ProductOf of the model, the whole. -/
namespace Go.Proofs.YtpbenelmklggcaaGreat
set_option maxRecDepth 20000
open Go.RowKit Go.Am
attribute [local irreducible] aPlan aGet aIf aLoop aCall RetB NextB CallB CallG aCut aSet aAppend

theorem iProductOf_call {c d e f : Nat} {xs zs ps qs : List Int} {env : List AV} {rows : List Row} {ctr low : Nat} {k : AV → St → Prop} (hpre : True)
    (hk : k (.tup [.agg [.ref rows.length ctr 0 (prM xs zs ps qs).1.length, .ref (rows.length + 1) ctr 0 (prM xs zs ps qs).2.1.length], .bool (prM xs zs ps qs).2.2]) ⟨env, rows ++ [⟨ctr, 3, 1, (prM xs zs ps qs).1.map (.int .i64)⟩, ⟨ctr, 3, 1, (prM xs zs ps qs).2.1.map (.int .i64)⟩], ctr + 1, low⟩) :
    CallB Tryz.prog 104 ⟨env, rows, ctr, low⟩ [.agg [.sl c xs.length (xs.map (.int .i64)), .sl d zs.length (zs.map (.int .i64))], .agg [.sl e ps.length (ps.map (.int .i64)), .sl f qs.length (qs.map (.int .i64))]] k := callTB_in iProductOf_sound (c, xs, d, zs, e, ps, f, qs) hpre hk
end Go.Proofs.YtpbenelmklggcaaGreat

/- What is reckoned over all shapes that lie beside each other along an axis. -/
namespace Go.Proofs.YtpbenelmklggcaaGreat
set_option maxRecDepth 20000
open Go.RowKit Go.Am

def bsSh (xs : List Int) (a : Nat) (p : Int) : List Int := xs.set a (xs.getD a 0 + p)
def bsStp (xs : List Int) (a : Nat) : Int := (strides xs).getD a 0
def bsA (xs : List Int) (a : Nat) : Nat := (bsStp xs a * xs.getD a 0).toNat
def bsB (xs : List Int) (a : Nat) (p : Int) : Nat := (bsStp xs a * p).toNat
def bsN (xs : List Int) (a : Nat) : Nat := (cntTo xs xs.length).toNat / bsA xs a
def bsRef (xs : List Int) (a : Nat) (p : Int) (i : Nat) : Bool × Int :=
  if (places (bsSh xs a p) i).getD a 0 < xs.getD a 0 then (true, idxTo xs (places (bsSh xs a p) i) xs.length)
  else (false, idxTo (xs.set a p) ((places (bsSh xs a p) i).set a ((places (bsSh xs a p) i).getD a 0 - xs.getD a 0)) xs.length)
def bsTurn (A B n : Nat) : List (Bool × Int) := (List.range n).flatMap fun i => ((List.range A).map fun j => (true, ((i * A + j : Nat) : Int))) ++ ((List.range B).map fun j => (false, ((i * B + j : Nat) : Int)))
def bsIn (xs : List Int) (a : Nat) (p : Int) (r : Bool × Int) : Bool := decide (0 ≤ r.2) && (if r.1 = true then decide (r.2 < cntTo xs xs.length) else decide (r.2 < cntTo (xs.set a p) (xs.set a p).length))
def bsGood (xs : List Int) (a : Nat) (p : Int) : Bool := shapeOk (bsSh xs a p) && ((bsTurn (bsA xs a) (bsB xs a p) (bsN xs a) == (List.range (cntTo (bsSh xs a p) (bsSh xs a p).length).toNat).map (bsRef xs a p)) &&
  (List.range (cntTo (bsSh xs a p) (bsSh xs a p).length).toNat).all fun i => bsIn xs a p (bsRef xs a p i))
def bsOne (xs : List Int) (a : Nat) (p : Int) : Bool := (cntTo xs xs.length == ((bsN xs a * bsA xs a : Nat) : Int)) && ((cntTo (xs.set a p) (xs.set a p).length == ((bsN xs a * bsB xs a p : Nat) : Int)) && (decide (1 ≤ bsA xs a ∧ bsA xs a ≤ 64 ∧ 1 ≤ bsB xs a p ∧ bsB xs a p ≤ 64) &&
  ((bsStp xs a * xs.getD a 0 == (bsA xs a : Int)) && ((bsStp xs a * p == (bsB xs a p : Int)) && (decide (4 < xs.getD a 0 + p) || bsGood xs a p)))))
def bsChk (xs : List Int) : Bool := (List.range xs.length).all fun a => sizes.all fun p => bsOne xs a p
theorem bsChk_2 : shapes2.all bsChk = true := by kernel_rfl
theorem bsChk_31 : (shapes3 1).all bsChk = true := by kernel_rfl
theorem bsChk_32 : (shapes3 2).all bsChk = true := by kernel_rfl
theorem bsChk_33 : (shapes3 3).all bsChk = true := by kernel_rfl
theorem bsChk_34 : (shapes3 4).all bsChk = true := by kernel_rfl
structure BsFacts (xs : List Int) (a : Nat) (p : Int) : Prop where
  cx : cntTo xs xs.length = ((bsN xs a * bsA xs a : Nat) : Int)
  cp : cntTo (xs.set a p) (xs.set a p).length = ((bsN xs a * bsB xs a p : Nat) : Int)
  ab : 1 ≤ bsA xs a ∧ bsA xs a ≤ 64 ∧ 1 ≤ bsB xs a p ∧ bsB xs a p ≤ 64
  ea : bsStp xs a * xs.getD a 0 = (bsA xs a : Int)
  eb : bsStp xs a * p = (bsB xs a p : Int)
  good : xs.getD a 0 + p ≤ 4 → shapeOk (bsSh xs a p) = true ∧ bsTurn (bsA xs a) (bsB xs a p) (bsN xs a) = (List.range (cntTo (bsSh xs a p) (bsSh xs a p).length).toNat).map (bsRef xs a p) ∧
    ∀ i : Nat, (i : Int) < cntTo (bsSh xs a p) (bsSh xs a p).length → bsIn xs a p (bsRef xs a p i) = true
theorem bs_facts {xs : List Int} (hs : shapeOk xs = true) {a : Nat} (ha : a < xs.length) {p : Int} (hp : 1 ≤ p ∧ p ≤ 4) : BsFacts xs a p := by
  have h := shape_all bsChk_2 bsChk_31 bsChk_32 bsChk_33 bsChk_34 hs
  unfold bsChk at h
  simp only [List.all_eq_true] at h
  have h := h a (List.mem_range.2 ha) p (size_mem hp)
  unfold bsOne at h
  simp only [Bool.and_eq_true, beq_iff_eq, decide_eq_true_eq, Bool.or_eq_true] at h
  obtain ⟨h1, h2, h3, h4, h5, h6⟩ := h
  refine ⟨h1, h2, h3, h4, h5, fun hle => ?_⟩
  rcases h6 with h6 | h6
  · omega
  unfold bsGood at h6
  simp only [Bool.and_eq_true, beq_iff_eq, List.all_eq_true] at h6
  exact ⟨h6.1, h6.2.1, fun i hi => h6.2.2 i (List.mem_range.2 (by omega))⟩
end Go.Proofs.YtpbenelmklggcaaGreat
