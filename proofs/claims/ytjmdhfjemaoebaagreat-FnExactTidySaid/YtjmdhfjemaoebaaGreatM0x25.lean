import Derived.Test.YtjmdhfjemaoebaaGreatM0x23
import Derived.Test.YtjmdhfjemaoebaaGreatM0x24
namespace Go.Proofs.YtjmdhfjemaoebaaGreat
set_option maxRecDepth 20000
open Go.RowKit Go.Am
attribute [local irreducible] aPlan aGet aIf aLoop aCall RetB NextB CallB CallG aCut aSet aAppend
def two (op x y : Int) : Int := if op = 0 then IntKind.i64.wrap (x + y) else if op = 1 then IntKind.i64.wrap (x - y) else if op = 2 then IntKind.i64.wrap (x * y) else if x < y then y else x
theorem two_0 {op x y : Int} (h : op = 0) : two op x y = IntKind.i64.wrap (x + y) := if_pos h
theorem two_1 {op x y : Int} (h0 : ¬ op = 0) (h : op = 1) : two op x y = IntKind.i64.wrap (x - y) := by unfold two; rw [if_neg h0, if_pos h]
theorem two_2 {op x y : Int} (h0 : ¬ op = 0) (h1 : ¬ op = 1) (h : op = 2) : two op x y = IntKind.i64.wrap (x * y) := by unfold two; rw [if_neg h0, if_neg h1, if_pos h]
theorem two_y {op x y : Int} (h0 : ¬ op = 0) (h1 : ¬ op = 1) (h2 : ¬ op = 2) (h : x < y) : two op x y = y := by unfold two; rw [if_neg h0, if_neg h1, if_neg h2, if_pos h]
theorem two_x {op x y : Int} (h0 : ¬ op = 0) (h1 : ¬ op = 1) (h2 : ¬ op = 2) (h : ¬ x < y) : two op x y = x := by unfold two; rw [if_neg h0, if_neg h1, if_neg h2, if_neg h]
def sTwoN : CSpec := fnS (ι := Int × Int × Int) (fun | (op, x, y) => [.int .i64 op, .int .i64 x, .int .i64 y]) (fun _ => True) (fun | (op, x, y) => .int .i64 (two op x y))
set_option maxRecDepth 10000 in
theorem twoNums_sound : Sound Tryz.prog 181 sTwoN := by
  refine sound_of Tryz.func181 rfl (enters_of Tryz.func181 (by kernel_rfl) (by kernel_rfl)) ?_
  rintro ⟨op, x, y⟩ -
  conv => whnf
  repeat' (first
    | (refine append_same ?_; conv => whnf) | (refine aIf_dec (fun _ => ?_) (fun _ => ?_) <;> conv => whnf))
  all_goals (first
    | exact retS rfl (congrArg _ (two_0 (by assumption)).symm) | exact retS rfl (congrArg _ (two_1 (by assumption) (by assumption)).symm)
    | exact retS rfl (congrArg _ (two_2 (by assumption) (by assumption) (by assumption)).symm) | exact retS rfl (congrArg _ (two_y (by assumption) (by assumption) (by assumption) (by assumption)).symm)
    | exact retS rfl (congrArg _ (two_x (by assumption) (by assumption) (by assumption) (by assumption)).symm))
theorem twoNums_call {op x y : Int} {env : List AV} {rows : List Row} {ctr low : Nat} {k : AV → St → Prop} (h : k (.int .i64 (two op x y)) ⟨env, rows, ctr + 1, low⟩) : CallB Tryz.prog 181 ⟨env, rows, ctr, low⟩ [.int .i64 op, .int .i64 x, .int .i64 y] k :=
  callS_in twoNums_sound (op, x, y) trivial rfl h
def twoL (op : Int) (us vs : List Int) : List Int := (List.range us.length).map fun j => two op (us.getD j 0) (vs.getD j 0)
theorem twoL_length (op : Int) (us vs : List Int) : (twoL op us vs).length = us.length := by simp [twoL]
theorem twoL_getD {op : Int} {us vs : List Int} {j : Nat} (h : j < us.length) : (twoL op us vs).getD j 0 = two op (us.getD j 0) (vs.getD j 0) := range_getD h
abbrev sprd (xs zs ys : List Int) : List Int := rdL zs ys (sst xs ys) 0
def twoP (op : Int) (xs zs ps qs : List Int) : Prop := tensorOk xs zs = true ∧ tensorOk ps qs = true ∧ (0 ≤ op ∧ op ≤ 3) ∧ jOk xs ps = true
instance (op : Int) (xs zs ps qs : List Int) : Decidable (twoP op xs zs ps qs) := by unfold twoP; infer_instance
def twoM (op : Int) (xs zs ps qs : List Int) : TM := if twoP op xs zs ps qs then told (jL xs ps) (twoL op (sprd xs zs (jL xs ps)) (sprd ps qs (jL xs ps))) else noT
theorem twoM_t {op : Int} {xs zs ps qs : List Int} (h : twoP op xs zs ps qs) : twoM op xs zs ps qs = told (jL xs ps) (twoL op (sprd xs zs (jL xs ps)) (sprd ps qs (jL xs ps))) := if_pos h
theorem twoM_f {op : Int} {xs zs ps qs : List Int} (h : ¬ twoP op xs zs ps qs) : twoM op xs zs ps qs = noT := if_neg h
theorem jOk_r {xs ps : List Int} (h : jOk xs ps = true) : jOk ps (jL xs ps) = true ∧ jL ps (jL xs ps) = jL xs ps := by
  have h' : jOk ps xs = true := by rw [jOk_comm]; exact h
  rw [jL_comm xs ps]
  exact ⟨jOk_jL h', jL_jL h'⟩
theorem sp_pre' {xs zs ys : List Int} (hl : (zs.length : Int) = cntTo xs xs.length) (h : jOk xs ys = true) (h' : jL xs ys = ys) : RdPre zs ys (sst xs ys) 0 := by
  obtain ⟨b1, b2⟩ := sp_facts h h'
  have hc := cnt64 b1 (Nat.le_refl _)
  obtain ⟨t1, -⟩ := sp_ok (sp_all h h' (i := 0) (by omega))
  refine ⟨b1, sst_length _ _, fun j hj => sst_in t1 b2 hj, by omega, fun i hi => ?_⟩
  obtain ⟨c1, c2, c3⟩ := sp_rd h h' hi
  omega
structure EtP (ys xs zs ps qs : List Int) : Prop where
  l1 : (zs.length : Int) = cntTo xs xs.length
  l2 : (qs.length : Int) = cntTo ps ps.length
  j1 : jOk xs ys = true
  j2 : jL xs ys = ys
  j3 : jOk ps ys = true
  j4 : jL ps ys = ys
def sEach : CSpec := fnL (ι := Int × Nat × List Int × Nat × List Int × Nat × List Int × Nat × List Int × Nat × List Int) 3 (fun | (op, g, ys, c, xs, d, zs, e, ps, f, qs) => [.int .i64 op, .sl g ys.length (ys.map (.int .i64)), .agg [.sl c xs.length (xs.map (.int .i64)), .sl d zs.length (zs.map (.int .i64))], .agg [.sl e ps.length (ps.map (.int .i64)), .sl f qs.length (qs.map (.int .i64))]]) (fun | (_, _, ys, _, xs, _, zs, _, ps, _, qs) => EtP ys xs zs ps qs) (fun | (op, _, ys, _, xs, _, zs, _, ps, _, qs) => twoL op (sprd xs zs ys) (sprd ps qs ys))
set_option maxHeartbeats 4000000 in
set_option maxRecDepth 10000 in
theorem eachTwo_sound : Sound Tryz.prog 151 sEach := by
  refine sound_of Tryz.func151 rfl (enters_of Tryz.func151 (by kernel_rfl) (by kernel_rfl)) ?_
  rintro ⟨op, g, ys, c, xs, d, zs, e, ps, f, qs⟩ hpre
  obtain ⟨l1, l2, j1, j2, j3, j4⟩ : EtP ys xs zs ps qs := hpre
  have hmax : maxLen = 9223372036854775807 := rfl
  obtain ⟨b1, b2⟩ := sp_facts j1 j2
  obtain ⟨b3, b4⟩ := sp_facts j3 j4
  have hc := cnt64 b1 (Nat.le_refl _)
  have h3 := ((shapeOk_iff _).1 b1).1
  obtain ⟨t1, -⟩ := sp_ok (sp_all j1 j2 (i := 0) (by omega))
  obtain ⟨t2, -⟩ := sp_ok (sp_all j3 j4 (i := 0) (by omega))
  have r1 := sp_pre' l1 j1 j2
  have r2 := sp_pre' l2 j3 j4
  have nA : (rdL zs ys (sst xs ys) 0).length = (cntTo ys ys.length).toNat := rdL_length _ _ _ _
  have nB : (rdL qs ys (sst ps ys) 0).length = (cntTo ys ys.length).toNat := rdL_length _ _ _ _
  conv => whnf
  repeat' (first
    | ((first | refine tree_in (id := 1) (.one 0 (.one 1 (.one 2 (.one 3 (.one 4 (.one 5 (.two 6 8 (.two 7 8 (.one 8 (.one 9 .nil)) (.one 7 (.one 9 .nil))) (.one 6 (.one 7 (.one 9 .nil)))))))))) (by kernel_rfl) (by kernel_rfl) ?_ | refine tree_in (id := 2) (.one 0 (.one 1 (.one 2 (.one 3 (.one 4 (.one 5 (.two 6 8 (.two 7 8 (.one 8 (.one 9 .nil)) (.one 7 (.one 9 .nil))) (.one 6 (.one 7 (.one 9 .nil)))))))))) (by kernel_rfl) (by kernel_rfl) ?_); conv => whnf) | (refine fork_in ?_ ?_ <;> conv => whnf) | ((first | refine fun (_ : _ ≤ maxLen) => ?_ | refine aGet_in rfl ?_ | refine And.intro (And.intro (Int.le_refl _) (And.intro (by kernel_rfl) (And.intro rfl (by kernel_rfl)))) (And.intro (And.intro (by omega) (And.intro (bytes_le (b := 8) rfl (by omega)) (by omega))) ?_) | refine And.intro rfl (And.intro (List.cons_ne_nil _ _) ?_) | refine And.intro (Nat.le_of_ble_eq_true rfl) ?_ | refine spreadSteps_call (And.intro (by assumption) (by omega)) ?_ | refine readBy_call (by assumption) (by first | rfl | omega) (by first | rfl | omega) (by first | rfl | omega) ?_ | refine append_same ?_ | refine And.intro (pureL_ints _ _) ?_ | refine cut_ints ?_ | refine set_force ?_ | refine And.intro (by kernel_rfl) ?_); conv => whnf))
  all_goals (first | (exfalso; omega) | skip)
  all_goals
    refine loop_u (ι := Nat × List Int) [true, false, false, false, false, false, false, false, false, false, true, true, false, false, false, false, false, false, false, false, false, false, false, false, false, false, false, false, false, false, false, false, false, false, false, true, true, true, false, false, false, false, false, false, false, false, false, false, false, false, false, false, false, false, false] (fun | (k, _) => [(37, .int .i64 k)]) (fun | (_, ws) => [(15, ws.map (.int .i64))]) (fun x => x.1 ≤ (rdL zs ys (sst xs ys) 0).length ∧ x.2.length = (rdL zs ys (sst xs ys) 0).length ∧ ∀ j, j < x.1 → x.2.getD j 0 = two op ((rdL zs ys (sst xs ys) 0).getD j 0) ((rdL qs ys (sst ps ys) 0).getD j 0)) (fun x => (rdL zs ys (sst xs ys) 0).length - x.1) ((0, List.replicate (rdL zs ys (sst xs ys) 0).length 0)) ⟨Nat.zero_le _, by simp, fun j hj => absurd hj (Nat.not_lt_zero _)⟩ ?_ ?_
    · conv => whnf
      repeat' (first
        | exact trivial | exact rfl
        | exact Or.inl (And.intro rfl rfl) | exact le_ints rfl
        | exact le_ints (rep_ints _ _) | exact Or.inl (And.intro (pureL_pair _ _ _ _ _ _) rfl)
        | refine Or.inr ?_ | refine And.intro ?_ ?_
        | exact Nat.le_of_ble_eq_true rfl)
    · rintro ⟨k, ws⟩ ⟨hk, hl, hall⟩
      have hk : k ≤ (rdL zs ys (sst xs ys) 0).length := hk
      have hl : ws.length = (rdL zs ys (sst xs ys) 0).length := hl
      have hall : ∀ j, j < k → ws.getD j 0 = two op ((rdL zs ys (sst xs ys) 0).getD j 0) ((rdL qs ys (sst ps ys) 0).getD j 0) := hall
      by_cases hlt : k < (rdL zs ys (sst xs ys) 0).length
      · conv => whnf
        repeat' (first
          | ((first | refine tree_in (id := 1) (.one 0 (.one 1 (.one 2 (.one 3 (.one 4 (.one 5 (.two 6 8 (.two 7 8 (.one 8 (.one 9 .nil)) (.one 7 (.one 9 .nil))) (.one 6 (.one 7 (.one 9 .nil)))))))))) (by kernel_rfl) (by kernel_rfl) ?_ | refine tree_in (id := 2) (.one 0 (.one 1 (.one 2 (.one 3 (.one 4 (.one 5 (.two 6 8 (.two 7 8 (.one 8 (.one 9 .nil)) (.one 7 (.one 9 .nil))) (.one 6 (.one 7 (.one 9 .nil)))))))))) (by kernel_rfl) (by kernel_rfl) ?_ | refine get_nat0 (by omega) ?_ | refine aGet_in rfl ?_ | refine And.intro (by omega) ?_ | refine callG_t ?_ | refine append_same ?_ | refine twoNums_call ?_ | refine And.intro rfl (And.intro rfl (And.intro (by first | omega | (rw [List.length_map]; omega)) ?_)) | refine set_nat ?_ (by omega)); conv => whnf) | (refine aIf_dec (fun _ => ?_) (fun _ => ?_) <;> conv => whnf))
        all_goals (first | (exfalso; omega) | skip)
        refine next_u (k + 1, ws.set k (two op ((rdL zs ys (sst xs ys) 0).getD k 0) ((rdL qs ys (sst ps ys) 0).getD k 0))) (show (rdL zs ys (sst xs ys) 0).length - (k + 1) < (rdL zs ys (sst xs ys) 0).length - k by omega) ⟨(show k + 1 ≤ (rdL zs ys (sst xs ys) 0).length by omega), (show (ws.set k _).length = _ by simpa using hl), fun j hj => ?_⟩ ?_
        · have hj : j < k + 1 := hj
          show (ws.set k (two op ((rdL zs ys (sst xs ys) 0).getD k 0) ((rdL qs ys (sst ps ys) 0).getD k 0))).getD j 0 = _
          rw [getD_set (by omega)]
          split
          · rename_i e; rw [e]
          · exact hall j (by omega)
        · conv => whnf
          repeat' (first
            | exact trivial | exact rfl
            | exact Or.inl (And.intro rfl rfl) | exact le_ints rfl
            | exact Or.inl (And.intro (pureL_pair _ _ _ _ _ _) rfl) | refine Or.inr ?_
            | refine And.intro ?_ ?_ | exact Nat.le_of_ble_eq_true rfl
            | exact int_eq (by rw [IntWalk.i64_in _ (by omega)] <;> omega))
      · have hws : ws = twoL op (rdL zs ys (sst xs ys) 0) (rdL qs ys (sst ps ys) 0) := getD_ext (by rw [twoL_length, hl]) fun j hj => by
          rw [twoL_length] at hj
          rw [hall j (by omega), twoL_getD hj]
        subst hws
        conv => whnf
        repeat' (first
          | ((first | refine tree_in (id := 1) (.one 0 (.one 1 (.one 2 (.one 3 (.one 4 (.one 5 (.two 6 8 (.two 7 8 (.one 8 (.one 9 .nil)) (.one 7 (.one 9 .nil))) (.one 6 (.one 7 (.one 9 .nil)))))))))) (by kernel_rfl) (by kernel_rfl) ?_ | refine tree_in (id := 2) (.one 0 (.one 1 (.one 2 (.one 3 (.one 4 (.one 5 (.two 6 8 (.two 7 8 (.one 8 (.one 9 .nil)) (.one 7 (.one 9 .nil))) (.one 6 (.one 7 (.one 9 .nil)))))))))) (by kernel_rfl) (by kernel_rfl) ?_ | refine get_nat0 (by omega) ?_ | refine aGet_in rfl ?_ | refine And.intro (by omega) ?_ | refine callG_t ?_ | refine append_same ?_ | refine twoNums_call ?_ | refine set_nat ?_ (by omega)); conv => whnf) | (refine aIf_dec (fun _ => ?_) (fun _ => ?_) <;> conv => whnf))
        all_goals (first | (exfalso; omega) | skip)
        exact retL rfl rfl rfl (by rw [twoL_length, Int.toNat_natCast])
theorem eachTwo_call {op : Int} {g c d e f : Nat} {ys xs zs ps qs : List Int} {env : List AV} {rows : List Row} {ctr low : Nat} {k : AV → St → Prop} (hpre : EtP ys xs zs ps qs) (h : k (.ref rows.length ctr 0 (twoL op (sprd xs zs ys) (sprd ps qs ys)).length) ⟨env, rows ++ [⟨ctr, 3, 1, (twoL op (sprd xs zs ys) (sprd ps qs ys)).map (.int .i64)⟩], ctr + 1, low⟩) :
    CallB Tryz.prog 151 ⟨env, rows, ctr, low⟩ [.int .i64 op, .sl g ys.length (ys.map (.int .i64)), .agg [.sl c xs.length (xs.map (.int .i64)), .sl d zs.length (zs.map (.int .i64))], .agg [.sl e ps.length (ps.map (.int .i64)), .sl f qs.length (qs.map (.int .i64))]] k := callL_in eachTwo_sound (op, g, ys, c, xs, d, zs, e, ps, f, qs) hpre h
def sTwoOf : CSpec := fnTB (ι := Int × Nat × List Int × Nat × List Int × Nat × List Int × Nat × List Int) 3 (fun | (op, c, xs, d, zs, e, ps, f, qs) => [.int .i64 op, .agg [.sl c xs.length (xs.map (.int .i64)), .sl d zs.length (zs.map (.int .i64))], .agg [.sl e ps.length (ps.map (.int .i64)), .sl f qs.length (qs.map (.int .i64))]]) (fun _ => True) (fun | (op, _, xs, _, zs, _, ps, _, qs) => twoM op xs zs ps qs)
set_option maxHeartbeats 4000000 in
set_option maxRecDepth 10000 in
theorem iTwoOf_sound : Sound Tryz.prog 171 sTwoOf := by
  refine sound_of Tryz.func171 rfl (enters_of Tryz.func171 (by kernel_rfl) (by kernel_rfl)) ?_
  rintro ⟨op, c, xs, d, zs, e, ps, f, qs⟩ -
  have hmax : maxLen = 9223372036854775807 := rfl
  have hle := jL_le6 xs ps
  by_cases hop : 0 ≤ op ∧ op ≤ 3
  · cases hj : jOk xs ps with
    | false =>
      have hC : ¬ twoP op xs zs ps qs := fun h => Bool.false_ne_true (hj.symm.trans h.2.2.2)
      conv => whnf
      repeat' (first
        | ((first | refine aIf_t ?_ | refine aIf_f ?_ | refine aGet_in rfl ?_ | refine And.intro (by omega) ?_ | refine And.intro rfl (And.intro (List.cons_ne_nil _ _) ?_) | refine And.intro (Nat.le_of_ble_eq_true rfl) ?_ | refine callG_t ?_ | refine append_same ?_ | refine takeN_in ?_ | refine And.intro (pureL_ints _ _) ?_ | refine iJoin_call ?_ | refine set_force ?_ | refine And.intro (by kernel_rfl) ?_ | refine aIf_ff (by assumption) ?_); conv => whnf) | refine aIf_eqf ?_
        | refine aIf_not ?_ | (refine aIf_dec (fun _ => ?_) (fun _ => ?_) <;> conv => whnf))
      all_goals (first | (exfalso; omega) | skip)
      refine retTB (hM := twoM_f hC) ?_ ?_ ?_ ?_ ?_
      all_goals (first | exact rfl | decide | (simp; done))
    | true =>
      obtain ⟨r1, r2⟩ := jOk_r hj
      have b1 := jL_ok hj
      have b3 := ((shapeOk_iff _).1 b1).1
      have hc := cnt64 b1 (Nat.le_refl _)
      rcases tensor_or xs zs with ⟨ht, hx, hz⟩ | ht
      · rcases tensor_or ps qs with ⟨hu, hy, hw⟩ | hu
        · have hE : EtP (jL xs ps) xs zs ps qs := ⟨((tensorOk_iff _ _).1 ht).2.1, ((tensorOk_iff _ _).1 hu).2.1, jOk_jL hj, jL_jL hj, r1, r2⟩
          have hl2 : (twoL op (sprd xs zs (jL xs ps)) (sprd ps qs (jL xs ps))).length ≤ 64 := by rw [twoL_length, rdL_length]; omega
          have hM : twoM op xs zs ps qs = told (jL xs ps) (twoL op (sprd xs zs (jL xs ps)) (sprd ps qs (jL xs ps))) := twoM_t ⟨ht, hu, hop, hj⟩
          conv => whnf
          repeat' (first
            | ((first | refine aIf_t ?_ | refine aIf_f ?_ | refine aGet_in rfl ?_ | refine And.intro (by omega) ?_ | refine load_same ?_ | refine And.intro rfl (And.intro (List.cons_ne_nil _ _) ?_) | refine And.intro (Nat.le_of_ble_eq_true rfl) ?_); conv => whnf) | (refine orNone_call _ _ rfl rfl (by decide) (by first | rfl | omega) (by first | rfl | omega) (fun _ => ?_) (fun _ => ?_) <;> conv => whnf) | ((first | refine callG_t ?_ | refine iTensorOk_call ?_ | refine append_same ?_ | refine eachTwo_call (by assumption) ?_ | refine takeN_in ?_ | refine And.intro (pureL_ints _ _) ?_ | refine cut_ints ?_ | refine iJoin_call ?_ | refine set_force ?_ | refine And.intro (by kernel_rfl) ?_ | refine aIf_tt (by assumption) ?_); conv => whnf) | refine aIf_eqf ?_
            | refine aIf_not ?_ | (refine aIf_dec (fun _ => ?_) (fun _ => ?_) <;> conv => whnf))
          all_goals (first | (exfalso; omega) | skip)
          all_goals (first | (refine retTB (hM := hM.trans (told_t (by assumption))) ?_ ?_ ?_ ?_ ?_ <;> first | exact rfl | decide | (simp; done)) | (refine retTB (hM := hM.trans (told_f (by assumption))) ?_ ?_ ?_ ?_ ?_ <;> first | exact rfl | decide | (simp; done)))
        · have hC : ¬ twoP op xs zs ps qs := fun h => Bool.false_ne_true (hu.symm.trans h.2.1)
          conv => whnf
          repeat' (first
            | ((first | refine aIf_t ?_ | refine aIf_f ?_ | refine aGet_in rfl ?_ | refine And.intro (by omega) ?_ | refine load_same ?_ | refine And.intro rfl (And.intro (List.cons_ne_nil _ _) ?_) | refine And.intro (Nat.le_of_ble_eq_true rfl) ?_ | refine callG_t ?_ | refine iTensorOk_call ?_ | refine append_same ?_ | refine takeN_in ?_ | refine And.intro (pureL_ints _ _) ?_ | refine iJoin_call ?_ | refine set_force ?_ | refine And.intro (by kernel_rfl) ?_ | refine aIf_tt (by assumption) ?_ | refine aIf_ff (by assumption) ?_); conv => whnf) | refine aIf_eqf ?_
            | refine aIf_not ?_ | (refine aIf_dec (fun _ => ?_) (fun _ => ?_) <;> conv => whnf))
          all_goals (first | (exfalso; omega) | skip)
          refine retTB (hM := twoM_f hC) ?_ ?_ ?_ ?_ ?_
          all_goals (first | exact rfl | decide | (simp; done))
      · have hC : ¬ twoP op xs zs ps qs := fun h => Bool.false_ne_true (ht.symm.trans h.1)
        conv => whnf
        repeat' (first
          | ((first | refine aIf_t ?_ | refine aIf_f ?_ | refine aGet_in rfl ?_ | refine And.intro (by omega) ?_ | refine load_same ?_ | refine And.intro rfl (And.intro (List.cons_ne_nil _ _) ?_) | refine And.intro (Nat.le_of_ble_eq_true rfl) ?_ | refine callG_t ?_ | refine iTensorOk_call ?_ | refine append_same ?_ | refine takeN_in ?_ | refine And.intro (pureL_ints _ _) ?_ | refine iJoin_call ?_ | refine set_force ?_ | refine And.intro (by kernel_rfl) ?_ | refine aIf_tt (by assumption) ?_ | refine aIf_ff (by assumption) ?_); conv => whnf) | refine aIf_eqf ?_
          | refine aIf_not ?_ | (refine aIf_dec (fun _ => ?_) (fun _ => ?_) <;> conv => whnf))
        all_goals (first | (exfalso; omega) | skip)
        refine retTB (hM := twoM_f hC) ?_ ?_ ?_ ?_ ?_
        all_goals (first | exact rfl | decide | (simp; done))
  · have hC : ¬ twoP op xs zs ps qs := fun h => hop h.2.2.1
    conv => whnf
    repeat' (first
      | ((first | refine aIf_t ?_ | refine aIf_f ?_ | refine aGet_in rfl ?_ | refine And.intro (by omega) ?_ | refine load_same ?_ | refine And.intro rfl (And.intro (List.cons_ne_nil _ _) ?_) | refine And.intro (Nat.le_of_ble_eq_true rfl) ?_ | refine callG_t ?_ | refine iTensorOk_call ?_ | refine append_same ?_ | refine takeN_in ?_ | refine And.intro (pureL_ints _ _) ?_ | refine cut_ints ?_ | refine iJoin_call ?_ | refine set_force ?_ | refine And.intro (by kernel_rfl) ?_); conv => whnf) | refine aIf_eqf ?_
      | refine aIf_not ?_ | (refine aIf_dec (fun _ => ?_) (fun _ => ?_) <;> conv => whnf)
      | (refine aIf_in (fun _ => ?_) (fun _ => ?_) <;> conv => whnf))
    all_goals (first | (exfalso; omega) | skip)
    · refine retTB (hM := twoM_f hC) ?_ ?_ ?_ ?_ ?_
      all_goals (first | exact rfl | decide | (simp; done))
    · refine retTB (hM := twoM_f hC) ?_ ?_ ?_ ?_ ?_
      all_goals (first | exact rfl | decide | (simp; done))
end Go.Proofs.YtjmdhfjemaoebaaGreat
namespace Go.Proofs.YtjmdhfjemaoebaaGreat
set_option maxRecDepth 20000
open Go.RowKit Go.Am
attribute [local irreducible] aPlan aGet aIf aLoop aCall RetB NextB CallB CallG aCut aSet aAppend
theorem iTwoOf_call {op : Int} {c d e f : Nat} {xs zs ps qs : List Int} {env : List AV} {rows : List Row} {ctr low : Nat} {k : AV → St → Prop} (hpre : True)
    (hk : k (.tup [.agg [.ref rows.length ctr 0 (twoM op xs zs ps qs).1.length, .ref (rows.length + 1) ctr 0 (twoM op xs zs ps qs).2.1.length], .bool (twoM op xs zs ps qs).2.2]) ⟨env, rows ++ [⟨ctr, 3, 1, (twoM op xs zs ps qs).1.map (.int .i64)⟩, ⟨ctr, 3, 1, (twoM op xs zs ps qs).2.1.map (.int .i64)⟩], ctr + 1, low⟩) :
    CallB Tryz.prog 171 ⟨env, rows, ctr, low⟩ [.int .i64 op, .agg [.sl c xs.length (xs.map (.int .i64)), .sl d zs.length (zs.map (.int .i64))], .agg [.sl e ps.length (ps.map (.int .i64)), .sl f qs.length (qs.map (.int .i64))]] k := callTB_in iTwoOf_sound (op, c, xs, d, zs, e, ps, f, qs) hpre hk
end Go.Proofs.YtjmdhfjemaoebaaGreat
