import Derived.Test.YtjmdhfjemaoebaaGreatM01x12
import Derived.Test.YtjmdhfjemaoebaaGreatM01x17
import Derived.Test.YtjmdhfjemaoebaaGreatM01x19
import Derived.Test.YtjmdhfjemaoebaaGreatM01x20
import Derived.Test.YtjmdhfjemaoebaaGreatM01x22
import Derived.Test.YtjmdhfjemaoebaaGreatM01x23
import Derived.Test.YtjmdhfjemaoebaaGreatM01x24
import Derived.Test.YtjmdhfjemaoebaaGreatM01x14
import Derived.Test.YtjmdhfjemaoebaaGreatM01x16
namespace Go.Proofs.YtjmdhfjemaoebaaGreat
set_option maxRecDepth 20000
open Go.RowKit Go.Am
set_option linter.unusedSimpArgs false
attribute [local irreducible] aPlan aGet aIf aLoop aCall RetB NextB CallB CallG aCut aSet aAppend
def zsOf (xs : List Int) : List Int := List.replicate (countOf xs).toNat 0
theorem retTc {env : List AV} {rows : List Row} {ctr τ1 τ2 v1 v2 n1 n2 : Nat} {t : TypeId} {xs ys xs' ys' : List Int} {cells : List AV} (hne : τ1 ≠ τ2) (h1 : rows[τ1]? = some ⟨v1, t, 1, xs.map (.int .i64)⟩) (h2 : rows[τ2]? = some ⟨v2, t, 1, cells⟩) (hc : cells = ys.map (.int .i64))
    (e1 : n1 = xs.length) (e2 : n2 = ys.length) (hx : xs = xs') (hy : ys = ys') :
    RetB ⟨env, rows, ctr, 0⟩ [] (fun r ic news => ic = [] ∧ r = .agg [.ref 0 0 0 xs'.length, .ref 1 0 0 ys'.length] ∧ news = [rowL t xs', rowL t ys']) (.agg [.ref τ1 v1 0 n1, .ref τ2 v2 0 n2]) := by
  subst hc; exact retTe hne h1 h2 e1 e2 hx hy
theorem noughtsOf_sound : Sound Tryz.prog 100 (fnT (ι := Nat × List Int) 3 (fun | (c, xs) => [.sl c xs.length (xs.map (.int .i64))]) (fun | (_, xs) => shapeOk xs = true) (fun | (_, xs) => xs) (fun | (_, xs) => zsOf xs)) := by
  refine sound_of Tryz.func100 rfl (enters_of Tryz.func100 (by kernel_rfl) (by kernel_rfl)) ?_
  rintro ⟨c, xs⟩ hpre
  have hs : shapeOk xs = true := hpre
  have h3 := ((shapeOk_iff _).1 hs).1
  have hc := cnt64 hs (Nat.le_refl _)
  have he : countOf xs = cntTo xs xs.length := if_pos hs
  conv => whnf
  repeat' (first
    | ((first | refine And.intro (And.intro (Int.le_refl _) (And.intro (by kernel_rfl) (And.intro rfl (by kernel_rfl)))) (And.intro (And.intro (by omega) (And.intro (bytes_le (b := 8) rfl (by omega)) (by omega))) ?_) | refine And.intro (Nat.le_of_ble_eq_true rfl) ?_ | refine callG_t ?_ | refine copyNums_call (by omega) ?_ | refine append_same ?_ | refine takeN_in ?_ | refine And.intro (pureL_ints _ _) ?_ | refine iCountOf_call ?_ | refine set_force ?_ | refine And.intro (by kernel_rfl) ?_); conv => whnf))
  exact retTc (by decide) rfl rfl (rep_ints _ _) rfl (by simp [zsOf]) rfl rfl
theorem noughtsOf_call {c : Nat} {xs : List Int} {env : List AV} {rows : List Row} {ctr low : Nat} {k : AV → St → Prop} (hpre : shapeOk xs = true)
    (hk : k (.agg [.ref rows.length ctr 0 xs.length, .ref (rows.length + 1) ctr 0 (zsOf xs).length]) ⟨env, rows ++ [⟨ctr, 3, 1, xs.map (.int .i64)⟩, ⟨ctr, 3, 1, (zsOf xs).map (.int .i64)⟩], ctr + 1, low⟩) :
    CallB Tryz.prog 100 ⟨env, rows, ctr, low⟩ [.sl c xs.length (xs.map (.int .i64))] k := callT_in noughtsOf_sound (c, xs) hpre hk
def wfL (l : List Int) : Prop := ∀ j, (Lit.int .i64 (l.getD j 0)).wf = true
def comM (x : Nd) (xs zs ps qs : List Int) : TM :=
  if x.op = 6 then negM xs zs else if x.op = 7 then sumM xs zs (x.l.getD (Int.toNat 0) 0) else if x.op = 8 then turnM xs zs x.l else if x.op = 9 then foldM xs zs x.l
  else if x.op = 10 then cutM xs zs (x.l.getD (Int.toNat 0) 0) (x.l.getD (Int.toNat 1) 0) (x.l.getD (Int.toNat 2) 0) else if x.op = 11 then bsM xs zs ps qs (x.l.getD (Int.toNat 0) 0) else if x.op = 12 then prM xs zs ps qs
  else twoM (IntKind.i64.wrap (IntKind.i64.wrap (x.op - 2) + 0)) xs zs ps qs
set_option maxHeartbeats 8000000 in
theorem comesOf_sound : Sound Tryz.prog 121 (fnTB (ι := Nat × Nd × Nat × List Int × Nat × List Int × Nat × List Int × Nat × List Int) 3 (fun | (b, x, c, xs, d, zs, e, ps, f, qs) => [.agg [.int .i64 x.op, .int .i64 x.a, .int .i64 x.b, .sl b x.l.length (x.l.map (.int .i64))], .agg [.sl c xs.length (xs.map (.int .i64)), .sl d zs.length (zs.map (.int .i64))], .agg [.sl e ps.length (ps.map (.int .i64)), .sl f qs.length (qs.map (.int .i64))]]) (fun | (_, x, _, xs, _, _, _, _, _, _) => lsP x ∧ xs.length ≤ 1048576 ∧ x.l.length ≤ 1048576 ∧ wfL x.l) (fun | (_, x, _, xs, _, zs, _, ps, _, qs) => comM x xs zs ps qs)) := by
  refine sound_of Tryz.func121 rfl (enters_of Tryz.func121 (by kernel_rfl) (by kernel_rfl)) ?_
  rintro ⟨b, x, c, xs, d, zs, e, ps, f, qs⟩ hpre
  have hpre : lsP x ∧ xs.length ≤ 1048576 ∧ x.l.length ≤ 1048576 ∧ wfL x.l := hpre
  obtain ⟨hl, hx, hxl, hwf⟩ := hpre
  unfold lsP at hl
  have hw1 := hwf (Int.toNat 1)
  have hw2 := hwf (Int.toNat 2)
  by_cases o6 : x.op = 6
  · have hM : comM x xs zs ps qs = ((negM xs zs).1, (negM xs zs).2.1, (negM xs zs).2.2) := by simp [comM, o6]
    conv => whnf
    repeat' (first
      | ((first | refine plan_in (id := 5) [0, 1, 2, 3, 4, 5, 6, 7, 8, 9] (by kernel_rfl) (by kernel_rfl) ?_ | refine plan_in (id := 11) [0, 1, 2, 3, 4, 5, 6, 7, 8, 9, 10, 11, 12, 13, 14, 15, 16, 17] (by kernel_rfl) (by kernel_rfl) ?_ | refine plan_in (id := 13) [0, 1, 2, 3, 4, 5, 6, 7, 8, 9, 10] (by kernel_rfl) (by kernel_rfl) ?_ | refine get_nat (by omega) ?_ | refine aGet_in rfl ?_ | refine And.intro (by omega) ?_ | refine load_same ?_ | refine And.intro rfl (And.intro (List.cons_ne_nil _ _) ?_) | refine And.intro (Nat.le_of_ble_eq_true rfl) ?_ | refine callG_t ?_ | refine iProductOf_call trivial ?_ | refine iTwoOf_call trivial ?_ | refine iTurnOf_call (by omega) ?_ | refine iSumAlong_call (by omega) ?_ | refine iCutOf_call (And.intro (by omega) (And.intro (by assumption) (by assumption))) ?_ | refine iNegOf_call ?_ | refine iFoldOf_call (by omega) ?_ | refine append_same ?_ | refine iBesideOf_call trivial ?_ | refine takeN_in ?_ | refine And.intro (pureL_ints _ _) ?_ | refine set_force ?_ | refine And.intro (by kernel_rfl) ?_); conv => whnf) | (refine aIf_dec (fun _ => ?_) (fun _ => ?_) <;> conv => whnf))
    all_goals (first | (exfalso; omega) | skip)
    refine retTB (hM := hM) ?_ ?_ ?_ ?_ ?_
    all_goals (first | exact rfl | decide | (simp; done))
  · by_cases o7 : x.op = 7
    · have hM : comM x xs zs ps qs = ((sumM xs zs (x.l.getD (Int.toNat 0) 0)).1, (sumM xs zs (x.l.getD (Int.toNat 0) 0)).2.1, (sumM xs zs (x.l.getD (Int.toNat 0) 0)).2.2) := by simp [comM, o7]
      have hll : x.l.length = 1 := by omega
      have t0 : Int.toNat 0 = 0 := rfl
      have t1 : Int.toNat 1 = 1 := rfl
      have t2 : Int.toNat 2 = 2 := rfl
      conv => whnf
      repeat' (first
        | ((first | refine plan_in (id := 5) [0, 1, 2, 3, 4, 5, 6, 7, 8, 9] (by kernel_rfl) (by kernel_rfl) ?_ | refine plan_in (id := 11) [0, 1, 2, 3, 4, 5, 6, 7, 8, 9, 10, 11, 12, 13, 14, 15, 16, 17] (by kernel_rfl) (by kernel_rfl) ?_ | refine plan_in (id := 13) [0, 1, 2, 3, 4, 5, 6, 7, 8, 9, 10] (by kernel_rfl) (by kernel_rfl) ?_ | refine get_nat (by omega) ?_ | refine get_int (by omega) ?_ | refine aGet_in rfl ?_ | refine And.intro (by omega) ?_ | refine load_same ?_ | refine And.intro rfl (And.intro (List.cons_ne_nil _ _) ?_) | refine And.intro (Nat.le_of_ble_eq_true rfl) ?_ | refine callG_t ?_ | refine iProductOf_call trivial ?_ | refine iTwoOf_call trivial ?_ | refine iTurnOf_call (by omega) ?_ | refine iSumAlong_call (by omega) ?_ | refine iCutOf_call (And.intro (by omega) (And.intro (by assumption) (by assumption))) ?_ | refine iNegOf_call ?_ | refine iFoldOf_call (by omega) ?_ | refine append_same ?_ | refine iBesideOf_call trivial ?_ | refine takeN_in ?_ | refine And.intro (pureL_ints _ _) ?_ | refine set_force ?_ | refine And.intro (by kernel_rfl) ?_); conv => whnf) | (refine aIf_dec (fun _ => ?_) (fun _ => ?_) <;> conv => whnf))
      all_goals (first | (exfalso; omega) | skip)
      refine retTB (hM := hM) ?_ ?_ ?_ ?_ ?_
      all_goals (first | exact rfl | decide | (simp; done))
    · by_cases o8 : x.op = 8
      · have hM : comM x xs zs ps qs = ((turnM xs zs x.l).1, (turnM xs zs x.l).2.1, (turnM xs zs x.l).2.2) := by simp [comM, o8]
        conv => whnf
        repeat' (first
          | ((first | refine plan_in (id := 5) [0, 1, 2, 3, 4, 5, 6, 7, 8, 9] (by kernel_rfl) (by kernel_rfl) ?_ | refine plan_in (id := 11) [0, 1, 2, 3, 4, 5, 6, 7, 8, 9, 10, 11, 12, 13, 14, 15, 16, 17] (by kernel_rfl) (by kernel_rfl) ?_ | refine plan_in (id := 13) [0, 1, 2, 3, 4, 5, 6, 7, 8, 9, 10] (by kernel_rfl) (by kernel_rfl) ?_ | refine get_nat (by omega) ?_ | refine aGet_in rfl ?_ | refine And.intro (by omega) ?_ | refine load_same ?_ | refine And.intro rfl (And.intro (List.cons_ne_nil _ _) ?_) | refine And.intro (Nat.le_of_ble_eq_true rfl) ?_ | refine callG_t ?_ | refine iProductOf_call trivial ?_ | refine iTwoOf_call trivial ?_ | refine iTurnOf_call (by omega) ?_ | refine iSumAlong_call (by omega) ?_ | refine iCutOf_call (And.intro (by omega) (And.intro (by assumption) (by assumption))) ?_ | refine iNegOf_call ?_ | refine iFoldOf_call (by omega) ?_ | refine append_same ?_ | refine iBesideOf_call trivial ?_ | refine takeN_in ?_ | refine And.intro (pureL_ints _ _) ?_ | refine set_force ?_ | refine And.intro (by kernel_rfl) ?_); conv => whnf) | (refine aIf_dec (fun _ => ?_) (fun _ => ?_) <;> conv => whnf))
        all_goals (first | (exfalso; omega) | skip)
        refine retTB (hM := hM) ?_ ?_ ?_ ?_ ?_
        all_goals (first | exact rfl | decide | (simp; done))
      · by_cases o9 : x.op = 9
        · have hM : comM x xs zs ps qs = ((foldM xs zs x.l).1, (foldM xs zs x.l).2.1, (foldM xs zs x.l).2.2) := by simp [comM, o9]
          conv => whnf
          repeat' (first
            | ((first | refine plan_in (id := 5) [0, 1, 2, 3, 4, 5, 6, 7, 8, 9] (by kernel_rfl) (by kernel_rfl) ?_ | refine plan_in (id := 11) [0, 1, 2, 3, 4, 5, 6, 7, 8, 9, 10, 11, 12, 13, 14, 15, 16, 17] (by kernel_rfl) (by kernel_rfl) ?_ | refine plan_in (id := 13) [0, 1, 2, 3, 4, 5, 6, 7, 8, 9, 10] (by kernel_rfl) (by kernel_rfl) ?_ | refine get_nat (by omega) ?_ | refine aGet_in rfl ?_ | refine And.intro (by omega) ?_ | refine load_same ?_ | refine And.intro rfl (And.intro (List.cons_ne_nil _ _) ?_) | refine And.intro (Nat.le_of_ble_eq_true rfl) ?_ | refine callG_t ?_ | refine iProductOf_call trivial ?_ | refine iTwoOf_call trivial ?_ | refine iTurnOf_call (by omega) ?_ | refine iSumAlong_call (by omega) ?_ | refine iCutOf_call (And.intro (by omega) (And.intro (by assumption) (by assumption))) ?_ | refine iNegOf_call ?_ | refine iFoldOf_call (by omega) ?_ | refine append_same ?_ | refine iBesideOf_call trivial ?_ | refine takeN_in ?_ | refine And.intro (pureL_ints _ _) ?_ | refine set_force ?_ | refine And.intro (by kernel_rfl) ?_); conv => whnf) | (refine aIf_dec (fun _ => ?_) (fun _ => ?_) <;> conv => whnf))
          all_goals (first | (exfalso; omega) | skip)
          refine retTB (hM := hM) ?_ ?_ ?_ ?_ ?_
          all_goals (first | exact rfl | decide | (simp; done))
        · by_cases o10 : x.op = 10
          · have hM : comM x xs zs ps qs = ((cutM xs zs (x.l.getD (Int.toNat 0) 0) (x.l.getD (Int.toNat 1) 0) (x.l.getD (Int.toNat 2) 0)).1, (cutM xs zs (x.l.getD (Int.toNat 0) 0) (x.l.getD (Int.toNat 1) 0) (x.l.getD (Int.toNat 2) 0)).2.1, (cutM xs zs (x.l.getD (Int.toNat 0) 0) (x.l.getD (Int.toNat 1) 0) (x.l.getD (Int.toNat 2) 0)).2.2) := by simp [comM, o10]
            have hll : x.l.length = 3 := by omega
            have t0 : Int.toNat 0 = 0 := rfl
            have t1 : Int.toNat 1 = 1 := rfl
            have t2 : Int.toNat 2 = 2 := rfl
            conv => whnf
            repeat' (first
              | ((first | refine plan_in (id := 5) [0, 1, 2, 3, 4, 5, 6, 7, 8, 9] (by kernel_rfl) (by kernel_rfl) ?_ | refine plan_in (id := 11) [0, 1, 2, 3, 4, 5, 6, 7, 8, 9, 10, 11, 12, 13, 14, 15, 16, 17] (by kernel_rfl) (by kernel_rfl) ?_ | refine plan_in (id := 13) [0, 1, 2, 3, 4, 5, 6, 7, 8, 9, 10] (by kernel_rfl) (by kernel_rfl) ?_ | refine get_nat (by omega) ?_ | refine get_int (by omega) ?_ | refine aGet_in rfl ?_ | refine And.intro (by omega) ?_ | refine load_same ?_ | refine And.intro rfl (And.intro (List.cons_ne_nil _ _) ?_) | refine And.intro (Nat.le_of_ble_eq_true rfl) ?_ | refine callG_t ?_ | refine iProductOf_call trivial ?_ | refine iTwoOf_call trivial ?_ | refine iTurnOf_call (by omega) ?_ | refine iSumAlong_call (by omega) ?_ | refine iCutOf_call (And.intro (by omega) (And.intro (by assumption) (by assumption))) ?_ | refine iNegOf_call ?_ | refine iFoldOf_call (by omega) ?_ | refine append_same ?_ | refine iBesideOf_call trivial ?_ | refine takeN_in ?_ | refine And.intro (pureL_ints _ _) ?_ | refine set_force ?_ | refine And.intro (by kernel_rfl) ?_); conv => whnf) | (refine aIf_dec (fun _ => ?_) (fun _ => ?_) <;> conv => whnf))
            all_goals (first | (exfalso; omega) | skip)
            refine retTB (hM := hM) ?_ ?_ ?_ ?_ ?_
            all_goals (first | exact rfl | decide | (simp; done))
          · by_cases o11 : x.op = 11
            · have hM : comM x xs zs ps qs = ((bsM xs zs ps qs (x.l.getD (Int.toNat 0) 0)).1, (bsM xs zs ps qs (x.l.getD (Int.toNat 0) 0)).2.1, (bsM xs zs ps qs (x.l.getD (Int.toNat 0) 0)).2.2) := by simp [comM, o11]
              have hll : x.l.length = 1 := by omega
              have t0 : Int.toNat 0 = 0 := rfl
              have t1 : Int.toNat 1 = 1 := rfl
              have t2 : Int.toNat 2 = 2 := rfl
              conv => whnf
              repeat' (first
                | ((first | refine plan_in (id := 5) [0, 1, 2, 3, 4, 5, 6, 7, 8, 9] (by kernel_rfl) (by kernel_rfl) ?_ | refine plan_in (id := 11) [0, 1, 2, 3, 4, 5, 6, 7, 8, 9, 10, 11, 12, 13, 14, 15, 16, 17] (by kernel_rfl) (by kernel_rfl) ?_ | refine plan_in (id := 13) [0, 1, 2, 3, 4, 5, 6, 7, 8, 9, 10] (by kernel_rfl) (by kernel_rfl) ?_ | refine get_nat (by omega) ?_ | refine get_int (by omega) ?_ | refine aGet_in rfl ?_ | refine And.intro (by omega) ?_ | refine load_same ?_ | refine And.intro rfl (And.intro (List.cons_ne_nil _ _) ?_) | refine And.intro (Nat.le_of_ble_eq_true rfl) ?_ | refine callG_t ?_ | refine iProductOf_call trivial ?_ | refine iTwoOf_call trivial ?_ | refine iTurnOf_call (by omega) ?_ | refine iSumAlong_call (by omega) ?_ | refine iCutOf_call (And.intro (by omega) (And.intro (by assumption) (by assumption))) ?_ | refine iNegOf_call ?_ | refine iFoldOf_call (by omega) ?_ | refine append_same ?_ | refine iBesideOf_call trivial ?_ | refine takeN_in ?_ | refine And.intro (pureL_ints _ _) ?_ | refine set_force ?_ | refine And.intro (by kernel_rfl) ?_); conv => whnf) | (refine aIf_dec (fun _ => ?_) (fun _ => ?_) <;> conv => whnf))
              all_goals (first | (exfalso; omega) | skip)
              refine retTB (hM := hM) ?_ ?_ ?_ ?_ ?_
              all_goals (first | exact rfl | decide | (simp; done))
            · by_cases o12 : x.op = 12
              · have hM : comM x xs zs ps qs = ((prM xs zs ps qs).1, (prM xs zs ps qs).2.1, (prM xs zs ps qs).2.2) := by simp [comM, o12]
                conv => whnf
                repeat' (first
                  | ((first | refine plan_in (id := 5) [0, 1, 2, 3, 4, 5, 6, 7, 8, 9] (by kernel_rfl) (by kernel_rfl) ?_ | refine plan_in (id := 11) [0, 1, 2, 3, 4, 5, 6, 7, 8, 9, 10, 11, 12, 13, 14, 15, 16, 17] (by kernel_rfl) (by kernel_rfl) ?_ | refine plan_in (id := 13) [0, 1, 2, 3, 4, 5, 6, 7, 8, 9, 10] (by kernel_rfl) (by kernel_rfl) ?_ | refine get_nat (by omega) ?_ | refine aGet_in rfl ?_ | refine And.intro (by omega) ?_ | refine load_same ?_ | refine And.intro rfl (And.intro (List.cons_ne_nil _ _) ?_) | refine And.intro (Nat.le_of_ble_eq_true rfl) ?_ | refine callG_t ?_ | refine iProductOf_call trivial ?_ | refine iTwoOf_call trivial ?_ | refine iTurnOf_call (by omega) ?_ | refine iSumAlong_call (by omega) ?_ | refine iCutOf_call (And.intro (by omega) (And.intro (by assumption) (by assumption))) ?_ | refine iNegOf_call ?_ | refine iFoldOf_call (by omega) ?_ | refine append_same ?_ | refine iBesideOf_call trivial ?_ | refine takeN_in ?_ | refine And.intro (pureL_ints _ _) ?_ | refine set_force ?_ | refine And.intro (by kernel_rfl) ?_); conv => whnf) | (refine aIf_dec (fun _ => ?_) (fun _ => ?_) <;> conv => whnf))
                all_goals (first | (exfalso; omega) | skip)
                refine retTB (hM := hM) ?_ ?_ ?_ ?_ ?_
                all_goals (first | exact rfl | decide | (simp; done))
              · have hM : comM x xs zs ps qs = ((twoM (IntKind.i64.wrap (IntKind.i64.wrap (x.op - 2) + 0)) xs zs ps qs).1, (twoM (IntKind.i64.wrap (IntKind.i64.wrap (x.op - 2) + 0)) xs zs ps qs).2.1, (twoM (IntKind.i64.wrap (IntKind.i64.wrap (x.op - 2) + 0)) xs zs ps qs).2.2) := by simp [comM, o6, o7, o8, o9, o10, o11, o12]
                conv => whnf
                repeat' (first
                  | ((first | refine plan_in (id := 5) [0, 1, 2, 3, 4, 5, 6, 7, 8, 9] (by kernel_rfl) (by kernel_rfl) ?_ | refine plan_in (id := 11) [0, 1, 2, 3, 4, 5, 6, 7, 8, 9, 10, 11, 12, 13, 14, 15, 16, 17] (by kernel_rfl) (by kernel_rfl) ?_ | refine plan_in (id := 13) [0, 1, 2, 3, 4, 5, 6, 7, 8, 9, 10] (by kernel_rfl) (by kernel_rfl) ?_ | refine get_nat (by omega) ?_ | refine aGet_in rfl ?_ | refine And.intro (by omega) ?_ | refine load_same ?_ | refine And.intro rfl (And.intro (List.cons_ne_nil _ _) ?_) | refine And.intro (Nat.le_of_ble_eq_true rfl) ?_ | refine callG_t ?_ | refine iProductOf_call trivial ?_ | refine iTwoOf_call trivial ?_ | refine iTurnOf_call (by omega) ?_ | refine iSumAlong_call (by omega) ?_ | refine iCutOf_call (And.intro (by omega) (And.intro (by assumption) (by assumption))) ?_ | refine iNegOf_call ?_ | refine iFoldOf_call (by omega) ?_ | refine append_same ?_ | refine iBesideOf_call trivial ?_ | refine takeN_in ?_ | refine And.intro (pureL_ints _ _) ?_ | refine set_force ?_ | refine And.intro (by kernel_rfl) ?_); conv => whnf) | (refine aIf_dec (fun _ => ?_) (fun _ => ?_) <;> conv => whnf))
                all_goals (first | (exfalso; omega) | skip)
                refine retTB (hM := hM) ?_ ?_ ?_ ?_ ?_
                all_goals (first | exact rfl | decide | (simp; done))
theorem comesOf_call {b c d e f : Nat} {x : Nd} {xs zs ps qs : List Int} {env : List AV} {rows : List Row} {ctr low : Nat} {k : AV → St → Prop} (hpre : lsP x ∧ xs.length ≤ 1048576 ∧ x.l.length ≤ 1048576 ∧ wfL x.l)
    (hk : k (.tup [.agg [.ref rows.length ctr 0 (comM x xs zs ps qs).1.length, .ref (rows.length + 1) ctr 0 (comM x xs zs ps qs).2.1.length], .bool (comM x xs zs ps qs).2.2]) ⟨env, rows ++ [⟨ctr, 3, 1, (comM x xs zs ps qs).1.map (.int .i64)⟩, ⟨ctr, 3, 1, (comM x xs zs ps qs).2.1.map (.int .i64)⟩], ctr + 1, low⟩) :
    CallB Tryz.prog 121 ⟨env, rows, ctr, low⟩ [.agg [.int .i64 x.op, .int .i64 x.a, .int .i64 x.b, .sl b x.l.length (x.l.map (.int .i64))], .agg [.sl c xs.length (xs.map (.int .i64)), .sl d zs.length (zs.map (.int .i64))], .agg [.sl e ps.length (ps.map (.int .i64)), .sl f qs.length (qs.map (.int .i64))]] k := callTB_in comesOf_sound (b, x, c, xs, d, zs, e, ps, f, qs) hpre hk
end Go.Proofs.YtjmdhfjemaoebaaGreat
namespace Go.Proofs.YtjmdhfjemaoebaaGreat
set_option maxRecDepth 20000
open Go.RowKit Go.Am
set_option linter.unusedSimpArgs false
attribute [local irreducible] aPlan aGet aIf aLoop aCall RetB NextB CallB CallG aCut aSet aAppend
def twoP3 (op : Int) : Prop := (2 ≤ op ∧ op ≤ 5) ∨ op = 11 ∨ op = 12
instance (op : Int) : Decidable (twoP3 op) := by unfold twoP3; infer_instance
theorem l3Two_sound : Sound Tryz.prog 124 (fnS (ι := Int) (fun op => [.int .i64 op]) (fun _ => True) (fun op => .bool (decide (twoP3 op)))) := by
  refine sound_of Tryz.func124 rfl (enters_of Tryz.func124 (by kernel_rfl) (by kernel_rfl)) ?_
  intro (op : Int) _
  conv => whnf
  repeat' (first
    | ((first | refine aIf_t ?_ | refine aIf_f ?_ | refine callG_t ?_ | refine append_same ?_ | refine in_call ?_); conv => whnf) | refine aIf_eqf ?_
    | (refine aIf_dec (fun _ => ?_) (fun _ => ?_) <;> conv => whnf))
  all_goals refine retS rfl (congrArg AV.bool (Bool.eq_iff_iff.2 ?_))
  all_goals simp only [decide_eq_true_eq, beq_iff_eq, bne_iff_ne, ne_eq, true_iff, false_iff, Bool.false_eq_true]
  all_goals (try unfold twoP3)
  all_goals (try unfold twoP3)
  all_goals omega
theorem l3Two_call {op : Int} {env : List AV} {rows : List Row} {ctr low : Nat} {k : AV → St → Prop} (hpre : True) (h : k (.bool (decide (twoP3 op))) ⟨env, rows, ctr + 1, low⟩) :
    CallB Tryz.prog 124 ⟨env, rows, ctr, low⟩ [.int .i64 op] k := callS_in l3Two_sound op hpre rfl h
theorem l3One_sound : Sound Tryz.prog 123 (fnS (ι := Int) (fun op => [.int .i64 op]) (fun _ => True) (fun op => .bool (decide (6 ≤ op ∧ op ≤ 10)))) := by
  refine sound_of Tryz.func123 rfl (enters_of Tryz.func123 (by kernel_rfl) (by kernel_rfl)) ?_
  intro (op : Int) _
  conv => whnf
  repeat' (first
    | ((first | refine callG_t ?_ | refine append_same ?_ | refine in_call ?_); conv => whnf))
  all_goals refine retS rfl (congrArg AV.bool (Bool.eq_iff_iff.2 ?_))
  all_goals simp only [decide_eq_true_eq, beq_iff_eq, bne_iff_ne, ne_eq, true_iff, false_iff, Bool.false_eq_true]
  all_goals (try unfold twoP3)
  all_goals (try unfold twoP3)
  all_goals omega
theorem l3One_call {op : Int} {env : List AV} {rows : List Row} {ctr low : Nat} {k : AV → St → Prop} (hpre : True) (h : k (.bool (decide (6 ≤ op ∧ op ≤ 10))) ⟨env, rows, ctr + 1, low⟩) :
    CallB Tryz.prog 123 ⟨env, rows, ctr, low⟩ [.int .i64 op] k := callS_in l3One_sound op hpre rfl h
def lcN (op : Int) : Int := if op = 7 ∨ op = 11 then 1 else if op = 10 then 3 else if op = 8 ∨ op = 9 then -1 else 0
theorem lcN_cases (op : Int) : ((op = 7 ∨ op = 11) ∧ lcN op = 1) ∨ (op = 10 ∧ lcN op = 3) ∨ ((op = 8 ∨ op = 9) ∧ lcN op = -1) ∨ (¬ (op = 7 ∨ op = 11) ∧ ¬ op = 10 ∧ ¬ (op = 8 ∨ op = 9) ∧ lcN op = 0) := by
  unfold lcN
  split
  · exact .inl ⟨by assumption, rfl⟩
  · split
    · exact .inr (.inl ⟨by assumption, rfl⟩)
    · split
      · exact .inr (.inr (.inl ⟨by assumption, rfl⟩))
      · exact .inr (.inr (.inr ⟨by assumption, by assumption, by assumption, rfl⟩))
theorem l3Lists_sound : Sound Tryz.prog 141 (fnS (ι := Int) (fun op => [.int .i64 op]) (fun _ => True) (fun op => .int .i64 (lcN op))) := by
  refine sound_of Tryz.func141 rfl (enters_of Tryz.func141 (by kernel_rfl) (by kernel_rfl)) ?_
  intro (op : Int) _
  have h := lcN_cases op
  conv => whnf
  repeat' (first
    | ((first | refine aIf_t ?_ | refine aIf_f ?_ | refine append_same ?_); conv => whnf) | refine aIf_eqf ?_
    | (refine aIf_dec (fun _ => ?_) (fun _ => ?_) <;> conv => whnf))
  all_goals exact retS rfl (int_eq (by omega))
theorem l3Lists_call {op : Int} {env : List AV} {rows : List Row} {ctr low : Nat} {k : AV → St → Prop} (hpre : True) (h : k (.int .i64 (lcN op)) ⟨env, rows, ctr + 1, low⟩) :
    CallB Tryz.prog 141 ⟨env, rows, ctr, low⟩ [.int .i64 op] k := callS_in l3Lists_sound op hpre rfl h
set_option maxHeartbeats 4000000 in
theorem l3Form_sound : Sound Tryz.prog 95 (fnS (ι := Nat × Nd × Nat × Nat) (fun | (c, x, k, n) => [.agg [.int .i64 x.op, .int .i64 x.a, .int .i64 x.b, .sl c x.l.length (x.l.map (.int .i64))], .int .i64 k, .int .i64 n]) (fun | (_, _, k, n) => k ≤ 100 ∧ n ≤ 100) (fun | (_, x, k, n) => .bool (decide (formP x k n)))) := by
  refine sound_of Tryz.func95 rfl (enters_of Tryz.func95 (by kernel_rfl) (by kernel_rfl)) ?_
  rintro ⟨c, x, k, n⟩ hpre
  have hpre : k ≤ 100 ∧ n ≤ 100 := hpre
  have h := lcN_cases x.op
  have w1 : IntKind.i64.wrap ((n : Int) - 1) = n - 1 := IntWalk.i64_in _ (by omega)
  have w2 : IntKind.i64.wrap ((k : Int) - 1) = k - 1 := IntWalk.i64_in _ (by omega)
  conv => whnf
  repeat' (first
    | ((first | refine aIf_t ?_ | refine aIf_f ?_ | refine fun (_ : _ ≤ maxLen) => ?_ | refine aGet_in rfl ?_ | refine And.intro rfl (And.intro (List.cons_ne_nil _ _) ?_) | refine callG_t ?_ | refine append_same ?_ | refine l3Two_call trivial ?_ | refine l3One_call trivial ?_ | refine l3Lists_call trivial ?_ | refine in_call ?_); conv => whnf) | refine aIf_eqt ?_
    | refine aIf_not ?_ | (refine aIf_dec (fun _ => ?_) (fun _ => ?_) <;> conv => whnf))
  all_goals skip
  all_goals refine retS rfl (congrArg AV.bool (Bool.eq_iff_iff.2 ?_))
  all_goals simp only [decide_eq_true_eq, beq_iff_eq, bne_iff_ne, ne_eq, true_iff, false_iff, Bool.false_eq_true]
  all_goals unfold formP
  all_goals (try unfold twoP3 at *)
  all_goals unfold lsP
  all_goals omega
theorem l3Form_call {c k' n : Nat} {x : Nd} {env : List AV} {rows : List Row} {ctr low : Nat} {k : AV → St → Prop} (hpre : k' ≤ 100 ∧ n ≤ 100) (h : k (.bool (decide (formP x k' n))) ⟨env, rows, ctr + 1, low⟩) :
    CallB Tryz.prog 95 ⟨env, rows, ctr, low⟩ [.agg [.int .i64 x.op, .int .i64 x.a, .int .i64 x.b, .sl c x.l.length (x.l.map (.int .i64))], .int .i64 k', .int .i64 n] k := callS_in l3Form_sound (c, x, k', n) hpre rfl h
end Go.Proofs.YtjmdhfjemaoebaaGreat
namespace Go.Proofs.YtjmdhfjemaoebaaGreat
set_option maxRecDepth 20000
open Go.RowKit Go.Am
attribute [local irreducible] aPlan aGet aIf aLoop aCall RetB NextB CallB CallG aCut aSet aAppend
def bshP (xs ps : List Int) (i : Int) : Prop := xs.length = ps.length ∧ (0 ≤ i ∧ i < xs.length) ∧ wo xs i.toNat = wo ps i.toNat ∧ xs.getD i.toNat 0 + ps.getD i.toNat 0 ≤ 4
instance (xs ps : List Int) (i : Int) : Decidable (bshP xs ps i) := by unfold bshP; infer_instance
def bshL (xs ps : List Int) (i : Int) : List Int := if bshP xs ps i then bsSh xs i.toNat (ps.getD i.toNat 0) else []
theorem bshL_t {xs ps : List Int} {a : Nat} (h : bshP xs ps a) : bshL xs ps a = bsSh xs a (ps.getD a 0) := by unfold bshL; rw [if_pos h, Int.toNat_natCast]
theorem bshL_f {xs ps : List Int} {i : Int} (h : ¬ bshP xs ps i) : bshL xs ps i = [] := if_neg h
def sBShape : CSpec := fnLB (ι := Nat × List Int × Nat × List Int × Int) 3 (fun | (c, xs, d, ps, i) => [.sl c xs.length (xs.map (.int .i64)), .sl d ps.length (ps.map (.int .i64)), .int .i64 i]) (fun | (_, xs, _, ps, _) => shapeOk xs = true ∧ shapeOk ps = true) (fun | (_, xs, _, ps, i) => bshL xs ps i) (fun | (_, xs, _, ps, i) => decide (bshP xs ps i))
theorem retLBM {env : List AV} {rows : List Row} {ctr τ ver n : Nat} {t : TypeId} {zs L : List Int} {b B : Bool} (h1 : L = zs) (h2 : B = b) (hr : rows[τ]? = some ⟨ver, t, 1, zs.map (.int .i64)⟩) (hn : n = zs.length) :
    RetB ⟨env, rows, ctr, 0⟩ [] (fun r ic news => r = .tup [.ref 0 0 0 L.length, .bool B] ∧ ic = [] ∧ news = [⟨0, t, 1, L.map (.int .i64)⟩]) (.tup [.ref τ ver 0 n, .bool b]) := by
  subst h1; subst h2; exact retLB hr rfl rfl hn rfl
set_option maxHeartbeats 4000000 in
theorem l2BesideShape_sound : Sound Tryz.prog 147 sBShape := by
  refine sound_of Tryz.func147 rfl (enters_of Tryz.func147 (by kernel_rfl) (by kernel_rfl)) ?_
  rintro ⟨c, xs, d, ps, i⟩ hpre
  have hpre : shapeOk xs = true ∧ shapeOk ps = true := hpre
  obtain ⟨hx, hp⟩ := hpre
  have h3 := ((shapeOk_iff _).1 hx).1
  have h3' := ((shapeOk_iff _).1 hp).1
  have hmax : maxLen = 9223372036854775807 := rfl
  have hw1 : IntKind.i64.wrap ((xs.length : Int) - 1) = xs.length - 1 := IntWalk.i64_in _ (by omega)
  by_cases hl : xs.length = ps.length
  · by_cases hi : 0 ≤ i ∧ i < xs.length
    · obtain ⟨a, rfl⟩ : ∃ a : Nat, i = a := ⟨i.toNat, by omega⟩
      have hs1 := size_in hx (show a < xs.length by omega)
      have hs2 := size_in hp (show a < ps.length by omega)
      have hw : IntKind.i64.wrap (xs.getD a 0 + ps.getD a 0) = xs.getD a 0 + ps.getD a 0 := IntWalk.i64_in _ (by omega)
      by_cases he : wo xs a = wo ps a
      · by_cases hle : xs.getD a 0 + ps.getD a 0 ≤ 4
        · have hP : bshP xs ps (a : Int) := ⟨hl, hi, by rw [Int.toNat_natCast]; exact he, by rw [Int.toNat_natCast]; exact hle⟩
          conv => whnf
          repeat' (first
            | ((first | refine plan_in (id := 1) [0, 1, 2, 3, 4, 5, 6, 7, 8, 9, 10, 11, 12, 13, 14, 15, 17, 18, 16, 19, 20, 21, 22, 23, 24, 25, 26, 27, 28, 29, 30, 31, 32, 33, 34] (by kernel_rfl) (by kernel_rfl) ?_ | refine plan_in (id := 4) [0, 1, 2, 3, 4, 5, 6, 7, 8, 9, 10, 11, 12] (by kernel_rfl) (by kernel_rfl) ?_ | refine aIf_t ?_ | refine aIf_f ?_ | refine fun (_ : _ ≤ maxLen) => ?_ | refine get_nat (by omega) ?_ | refine And.intro (by omega) ?_ | refine callG_t ?_ | refine l2Without_call (by omega) ?_ | refine l2Nums_call (by omega) ?_ | refine append_same ?_ | refine And.intro (pureL_ints _ _) ?_ | refine cut_ints ?_ | refine in_call ?_ | refine l1Same_call ?_ | refine And.intro rfl (And.intro rfl (And.intro (by first | omega | (rw [List.length_map]; omega)) ?_)) | refine set_nat ?_ (by omega)); conv => whnf) | refine aIf_eqf ?_
            | refine aIf_not ?_ | (refine aIf_dec (fun _ => ?_) (fun _ => ?_) <;> conv => whnf))
          all_goals (first | (exfalso; omega) | (exfalso; exact absurd he (by assumption)) | skip)
          have hL : bshL xs ps (a : Int) = xs.set a (IntKind.i64.wrap (xs.getD a 0 + ps.getD a 0)) := by rw [bshL_t hP, hw]; rfl
          exact retLBM hL (decide_eq_true hP) rfl (by simp)
        · have hP : ¬ bshP xs ps (a : Int) := fun h => hle (by have := h.2.2.2; rwa [Int.toNat_natCast] at this)
          conv => whnf
          repeat' (first
            | ((first | refine plan_in (id := 1) [0, 1, 2, 3, 4, 5, 6, 7, 8, 9, 10, 11, 12, 13, 14, 15, 17, 18, 16, 19, 20, 21, 22, 23, 24, 25, 26, 27, 28, 29, 30, 31, 32, 33, 34] (by kernel_rfl) (by kernel_rfl) ?_ | refine plan_in (id := 4) [0, 1, 2, 3, 4, 5, 6, 7, 8, 9, 10, 11, 12] (by kernel_rfl) (by kernel_rfl) ?_ | refine aIf_t ?_ | refine aIf_f ?_ | refine fun (_ : _ ≤ maxLen) => ?_ | refine get_nat (by omega) ?_ | refine And.intro (by omega) ?_ | refine callG_t ?_ | refine l2Without_call (by omega) ?_ | refine l2Nums_call (by omega) ?_ | refine append_same ?_ | refine And.intro (pureL_ints _ _) ?_ | refine cut_ints ?_ | refine in_call ?_ | refine l1Same_call ?_ | refine set_nat ?_ (by omega)); conv => whnf) | refine aIf_eqf ?_
            | refine aIf_not ?_ | (refine aIf_dec (fun _ => ?_) (fun _ => ?_) <;> conv => whnf))
          all_goals (first | (exfalso; omega) | (exfalso; exact absurd he (by assumption)) | skip)
          exact retLBM (bshL_f hP) (decide_eq_false hP) rfl rfl
      · have hP : ¬ bshP xs ps (a : Int) := fun h => he (by have := h.2.2.1; rwa [Int.toNat_natCast] at this)
        conv => whnf
        repeat' (first
          | ((first | refine plan_in (id := 1) [0, 1, 2, 3, 4, 5, 6, 7, 8, 9, 10, 11, 12, 13, 14, 15, 17, 18, 16, 19, 20, 21, 22, 23, 24, 25, 26, 27, 28, 29, 30, 31, 32, 33, 34] (by kernel_rfl) (by kernel_rfl) ?_ | refine plan_in (id := 4) [0, 1, 2, 3, 4, 5, 6, 7, 8, 9, 10, 11, 12] (by kernel_rfl) (by kernel_rfl) ?_ | refine aIf_t ?_ | refine aIf_f ?_ | refine fun (_ : _ ≤ maxLen) => ?_ | refine get_nat (by omega) ?_ | refine And.intro (by omega) ?_ | refine callG_t ?_ | refine l2Without_call (by omega) ?_ | refine l2Nums_call (by omega) ?_ | refine append_same ?_ | refine And.intro (pureL_ints _ _) ?_ | refine cut_ints ?_ | refine in_call ?_ | refine l1Same_call ?_ | refine And.intro rfl (And.intro rfl (And.intro (by first | omega | (rw [List.length_map]; omega)) ?_)) | refine set_nat ?_ (by omega)); conv => whnf) | refine aIf_eqf ?_
          | refine aIf_not ?_ | (refine aIf_dec (fun _ => ?_) (fun _ => ?_) <;> conv => whnf))
        all_goals (first | (exfalso; omega) | (exfalso; exact absurd (by assumption) he) | skip)
        exact retLBM (bshL_f hP) (decide_eq_false hP) rfl rfl
    · have hP : ¬ bshP xs ps i := fun h => hi h.2.1
      conv => whnf
      repeat' (first
        | ((first | refine plan_in (id := 1) [0, 1, 2, 3, 4, 5, 6, 7, 8, 9, 10, 11, 12, 13, 14, 15, 17, 18, 16, 19, 20, 21, 22, 23, 24, 25, 26, 27, 28, 29, 30, 31, 32, 33, 34] (by kernel_rfl) (by kernel_rfl) ?_ | refine plan_in (id := 4) [0, 1, 2, 3, 4, 5, 6, 7, 8, 9, 10, 11, 12] (by kernel_rfl) (by kernel_rfl) ?_ | refine aIf_t ?_ | refine aIf_f ?_ | refine fun (_ : _ ≤ maxLen) => ?_ | refine And.intro (by omega) ?_ | refine append_same ?_ | refine in_call ?_); conv => whnf) | refine aIf_eqf ?_
        | refine aIf_not ?_ | (refine aIf_dec (fun _ => ?_) (fun _ => ?_) <;> conv => whnf))
      all_goals (first | (exfalso; omega) | skip)
      exact retLBM (bshL_f hP) (decide_eq_false hP) rfl rfl
  · have hP : ¬ bshP xs ps i := fun h => hl h.1
    conv => whnf
    repeat' (first
      | ((first | refine plan_in (id := 1) [0, 1, 2, 3, 4, 5, 6, 7, 8, 9, 10, 11, 12, 13, 14, 15, 17, 18, 16, 19, 20, 21, 22, 23, 24, 25, 26, 27, 28, 29, 30, 31, 32, 33, 34] (by kernel_rfl) (by kernel_rfl) ?_ | refine plan_in (id := 4) [0, 1, 2, 3, 4, 5, 6, 7, 8, 9, 10, 11, 12] (by kernel_rfl) (by kernel_rfl) ?_ | refine aIf_t ?_ | refine aIf_f ?_ | refine fun (_ : _ ≤ maxLen) => ?_ | refine And.intro (by omega) ?_ | refine append_same ?_ | refine in_call ?_); conv => whnf) | refine aIf_eqf ?_
      | refine aIf_not ?_ | (refine aIf_dec (fun _ => ?_) (fun _ => ?_) <;> conv => whnf))
    all_goals (first | (exfalso; omega) | skip)
    exact retLBM (bshL_f hP) (decide_eq_false hP) rfl rfl
theorem l2BesideShape_call {c d : Nat} {xs ps : List Int} {i : Int} {env : List AV} {rows : List Row} {ctr low : Nat} {k : AV → St → Prop} (hpre : shapeOk xs = true ∧ shapeOk ps = true) (h : k (.tup [.ref rows.length ctr 0 (bshL xs ps i).length, .bool (decide (bshP xs ps i))]) ⟨env, rows ++ [⟨ctr, 3, 1, (bshL xs ps i).map (.int .i64)⟩], ctr + 1, low⟩) :
    CallB Tryz.prog 147 ⟨env, rows, ctr, low⟩ [.sl c xs.length (xs.map (.int .i64)), .sl d ps.length (ps.map (.int .i64)), .int .i64 i] k := callLB_in l2BesideShape_sound (c, xs, d, ps, i) hpre h
theorem bsRef_t {xs zs ps qs : List Int} {a k : Nat} (h : bsP xs zs ps qs a) (hk : (k : Int) < cntTo (bsSh xs a (ps.getD a 0)) (bsSh xs a (ps.getD a 0)).length) (hlt : (places (bsSh xs a (ps.getD a 0)) k).getD a 0 < xs.getD a 0) :
    (0 ≤ idxTo xs (places (bsSh xs a (ps.getD a 0)) k) xs.length ∧ idxTo xs (places (bsSh xs a (ps.getD a 0)) k) xs.length < zs.length) ∧ bsPick zs qs (bsRef xs a (ps.getD a 0) k) = zs.getD (idxTo xs (places (bsSh xs a (ps.getD a 0)) k) xs.length).toNat 0 := by
  obtain ⟨ht, hu, hi, he, hle⟩ := h
  rw [Int.toNat_natCast] at he hle
  obtain ⟨F, e1, e2, -, -⟩ := bs_all ht hu (by omega) he
  obtain ⟨g1, g2, g3⟩ := F.good hle
  have h3 := g3 k hk
  have t2 := ((tensorOk_iff _ _).1 ht).2.1
  have e : bsRef xs a (ps.getD a 0) k = (true, idxTo xs (places (bsSh xs a (ps.getD a 0)) k) xs.length) := if_pos hlt
  rw [e] at h3 ⊢
  unfold bsIn at h3
  rw [Bool.and_eq_true, decide_eq_true_iff, if_pos rfl, decide_eq_true_iff] at h3
  exact ⟨⟨h3.1, by rw [t2]; exact h3.2⟩, rfl⟩
theorem bsRef_f {xs zs ps qs : List Int} {a k : Nat} (h : bsP xs zs ps qs a) (hk : (k : Int) < cntTo (bsSh xs a (ps.getD a 0)) (bsSh xs a (ps.getD a 0)).length) (hlt : ¬ (places (bsSh xs a (ps.getD a 0)) k).getD a 0 < xs.getD a 0) :
    (0 ≤ idxTo ps ((places (bsSh xs a (ps.getD a 0)) k).set a ((places (bsSh xs a (ps.getD a 0)) k).getD a 0 - xs.getD a 0)) ps.length ∧ idxTo ps ((places (bsSh xs a (ps.getD a 0)) k).set a ((places (bsSh xs a (ps.getD a 0)) k).getD a 0 - xs.getD a 0)) ps.length < qs.length) ∧
      bsPick zs qs (bsRef xs a (ps.getD a 0) k) = qs.getD (idxTo ps ((places (bsSh xs a (ps.getD a 0)) k).set a ((places (bsSh xs a (ps.getD a 0)) k).getD a 0 - xs.getD a 0)) ps.length).toNat 0 := by
  obtain ⟨ht, hu, hi, he, hle⟩ := h
  rw [Int.toNat_natCast] at he hle
  obtain ⟨F, e1, e2, -, -⟩ := bs_all ht hu (by omega) he
  obtain ⟨g1, g2, g3⟩ := F.good hle
  have h3 := g3 k hk
  have u2 := ((tensorOk_iff _ _).1 hu).2.1
  have hl : ps.length = xs.length := by rw [he]; simp
  have e : bsRef xs a (ps.getD a 0) k = (false, idxTo ps ((places (bsSh xs a (ps.getD a 0)) k).set a ((places (bsSh xs a (ps.getD a 0)) k).getD a 0 - xs.getD a 0)) ps.length) := by
    unfold bsRef
    rw [if_neg hlt, ← he, hl]
  rw [e] at h3 ⊢
  unfold bsIn at h3
  rw [Bool.and_eq_true, decide_eq_true_iff, if_neg Bool.false_ne_true, decide_eq_true_iff, ← he] at h3
  exact ⟨⟨h3.1, by rw [u2]; exact h3.2⟩, rfl⟩
def bsTo (xs zs qs : List Int) (a : Nat) (p : Int) (k : Nat) : List Int := (List.range k).map fun i => bsPick zs qs (bsRef xs a p i)
theorem bsTo_succ (xs zs qs : List Int) (a : Nat) (p : Int) (k : Nat) : bsTo xs zs qs a p (k + 1) = bsTo xs zs qs a p k ++ [bsPick zs qs (bsRef xs a p k)] := by unfold bsTo; rw [List.range_succ, List.map_append]; rfl
theorem bsTo_length (xs zs qs : List Int) (a : Nat) (p : Int) (k : Nat) : (bsTo xs zs qs a p k).length = k := by simp [bsTo]
end Go.Proofs.YtjmdhfjemaoebaaGreat
namespace Go.Proofs.YtjmdhfjemaoebaaGreat
set_option maxRecDepth 20000
open Go.RowKit Go.Am
set_option linter.unusedSimpArgs false
attribute [local irreducible] aPlan aGet aIf aLoop aCall RetB NextB CallB CallG aCut aSet aAppend
def cshP (a l : List Int) : Prop := (0 ≤ l.getD (Int.toNat 0) 0 ∧ l.getD (Int.toNat 0) 0 < a.length) ∧ (1 ≤ l.getD (Int.toNat 2) 0 ∧ l.getD (Int.toNat 2) 0 ≤ 4) ∧ 0 ≤ l.getD (Int.toNat 1) 0 ∧ l.getD (Int.toNat 1) 0 ≤ a.getD (l.getD (Int.toNat 0) 0).toNat 0 - l.getD (Int.toNat 2) 0
instance (a l : List Int) : Decidable (cshP a l) := by unfold cshP; infer_instance
def cshL (a l : List Int) : List Int := if cshP a l then a.set (l.getD (Int.toNat 0) 0).toNat (l.getD (Int.toNat 2) 0) else []
set_option maxHeartbeats 4000000 in
theorem l3CutShape_sound : Sound Tryz.prog 146 (fnLB (ι := Nat × List Int × Nat × List Int) 3 (fun | (c, a, d, l) => [.sl c a.length (a.map (.int .i64)), .sl d l.length (l.map (.int .i64))]) (fun | (_, a, _, l) => shapeOk a = true ∧ l.length = 3) (fun | (_, a, _, l) => cshL a l) (fun | (_, a, _, l) => decide (cshP a l))) := by
  refine sound_of Tryz.func146 rfl (enters_of Tryz.func146 (by kernel_rfl) (by kernel_rfl)) ?_
  rintro ⟨c, a, d, l⟩ hpre
  have hpre : shapeOk a = true ∧ l.length = 3 := hpre
  obtain ⟨hs, hl⟩ := hpre
  have h3 := ((shapeOk_iff _).1 hs).1
  have hmax : maxLen = 9223372036854775807 := rfl
  have w1 : IntKind.i64.wrap ((a.length : Int) - 1) = a.length - 1 := IntWalk.i64_in _ (by omega)
  have t0 : Int.toNat 0 = 0 := rfl
  have t1 : Int.toNat 1 = 1 := rfl
  have t2 : Int.toNat 2 = 2 := rfl
  by_cases h0 : 0 ≤ l.getD (Int.toNat 0) 0 ∧ l.getD (Int.toNat 0) 0 < a.length
  · have hsz := size_in hs (show (l.getD (Int.toNat 0) 0).toNat < a.length by omega)
    by_cases h2 : 1 ≤ l.getD (Int.toNat 2) 0 ∧ l.getD (Int.toNat 2) 0 ≤ 4
    · have w2 : IntKind.i64.wrap (a.getD (l.getD (Int.toNat 0) 0).toNat 0 - l.getD (Int.toNat 2) 0) = a.getD (l.getD (Int.toNat 0) 0).toNat 0 - l.getD (Int.toNat 2) 0 := IntWalk.i64_in _ (by omega)
      by_cases hP : cshP a l
      · have h := hP.2.2
        have hL : cshL a l = a.set (l.getD (Int.toNat 0) 0).toNat (l.getD (Int.toNat 2) 0) := if_pos hP
        conv => whnf
        repeat' (first
          | ((first | refine plan_in (id := 1) [0, 1, 2, 3, 4, 5, 6, 7, 8, 9, 10, 11, 12, 13, 14, 15, 16, 17, 18, 19, 20, 21, 22, 23, 24, 25, 26, 27, 28, 29, 30, 31] (by kernel_rfl) (by kernel_rfl) ?_ | refine plan_in (id := 4) [0, 1, 2, 3, 4, 5, 6, 7, 8] (by kernel_rfl) (by kernel_rfl) ?_ | refine aIf_t ?_ | refine aIf_f ?_ | refine fun (_ : _ ≤ maxLen) => ?_ | refine get_int (by omega) ?_ | refine And.intro (by omega) ?_ | refine callG_t ?_ | refine l2Nums_call (by omega) ?_ | refine append_same ?_ | refine And.intro (pureL_ints _ _) ?_ | refine in_call ?_ | refine And.intro rfl (And.intro rfl (And.intro (by first | omega | (rw [List.length_map]; omega)) ?_)) | refine set_int ?_ (by omega)); conv => whnf) | refine aIf_eqf ?_
          | refine aIf_not ?_ | (refine aIf_dec (fun _ => ?_) (fun _ => ?_) <;> conv => whnf))
        all_goals (first | (exfalso; omega) | skip)
        exact retLBM hL (decide_eq_true hP) rfl (by simp)
      · have h : ¬ (0 ≤ l.getD (Int.toNat 1) 0 ∧ l.getD (Int.toNat 1) 0 ≤ a.getD (l.getD (Int.toNat 0) 0).toNat 0 - l.getD (Int.toNat 2) 0) := fun h => hP ⟨h0, h2, h⟩
        conv => whnf
        repeat' (first
          | ((first | refine plan_in (id := 1) [0, 1, 2, 3, 4, 5, 6, 7, 8, 9, 10, 11, 12, 13, 14, 15, 16, 17, 18, 19, 20, 21, 22, 23, 24, 25, 26, 27, 28, 29, 30, 31] (by kernel_rfl) (by kernel_rfl) ?_ | refine plan_in (id := 4) [0, 1, 2, 3, 4, 5, 6, 7, 8] (by kernel_rfl) (by kernel_rfl) ?_ | refine aIf_t ?_ | refine aIf_f ?_ | refine fun (_ : _ ≤ maxLen) => ?_ | refine get_nat (by omega) ?_ | refine get_int (by omega) ?_ | refine And.intro (by omega) ?_ | refine callG_t ?_ | refine l2Nums_call (by omega) ?_ | refine append_same ?_ | refine in_call ?_ | refine set_nat ?_ (by omega)); conv => whnf) | refine aIf_eqf ?_
          | refine aIf_not ?_ | (refine aIf_dec (fun _ => ?_) (fun _ => ?_) <;> conv => whnf))
        all_goals (first | (exfalso; omega) | skip)
        exact retLBM (if_neg hP) (decide_eq_false hP) rfl rfl
    · have hP : ¬ cshP a l := fun h => h2 h.2.1
      conv => whnf
      repeat' (first
        | ((first | refine plan_in (id := 1) [0, 1, 2, 3, 4, 5, 6, 7, 8, 9, 10, 11, 12, 13, 14, 15, 16, 17, 18, 19, 20, 21, 22, 23, 24, 25, 26, 27, 28, 29, 30, 31] (by kernel_rfl) (by kernel_rfl) ?_ | refine plan_in (id := 4) [0, 1, 2, 3, 4, 5, 6, 7, 8] (by kernel_rfl) (by kernel_rfl) ?_ | refine aIf_t ?_ | refine aIf_f ?_ | refine fun (_ : _ ≤ maxLen) => ?_ | refine get_nat (by omega) ?_ | refine get_int (by omega) ?_ | refine And.intro (by omega) ?_ | refine callG_t ?_ | refine l2Nums_call (by omega) ?_ | refine append_same ?_ | refine in_call ?_ | refine set_nat ?_ (by omega)); conv => whnf) | refine aIf_eqf ?_
        | refine aIf_not ?_ | (refine aIf_dec (fun _ => ?_) (fun _ => ?_) <;> conv => whnf))
      all_goals (first | (exfalso; omega) | skip)
      exact retLBM (if_neg hP) (decide_eq_false hP) rfl rfl
  · have hP : ¬ cshP a l := fun h => h0 h.1
    conv => whnf
    repeat' (first
      | ((first | refine plan_in (id := 1) [0, 1, 2, 3, 4, 5, 6, 7, 8, 9, 10, 11, 12, 13, 14, 15, 16, 17, 18, 19, 20, 21, 22, 23, 24, 25, 26, 27, 28, 29, 30, 31] (by kernel_rfl) (by kernel_rfl) ?_ | refine plan_in (id := 4) [0, 1, 2, 3, 4, 5, 6, 7, 8] (by kernel_rfl) (by kernel_rfl) ?_ | refine aIf_t ?_ | refine aIf_f ?_ | refine fun (_ : _ ≤ maxLen) => ?_ | refine get_nat (by omega) ?_ | refine get_int (by omega) ?_ | refine And.intro (by omega) ?_ | refine callG_t ?_ | refine l2Nums_call (by omega) ?_ | refine append_same ?_ | refine in_call ?_ | refine set_nat ?_ (by omega)); conv => whnf) | refine aIf_eqf ?_
      | refine aIf_not ?_ | (refine aIf_dec (fun _ => ?_) (fun _ => ?_) <;> conv => whnf))
    all_goals (first | (exfalso; omega) | skip)
    exact retLBM (if_neg hP) (decide_eq_false hP) rfl rfl
theorem l3CutShape_call {c d : Nat} {a l : List Int} {env : List AV} {rows : List Row} {ctr low : Nat} {k : AV → St → Prop} (hpre : shapeOk a = true ∧ l.length = 3) (h : k (.tup [.ref rows.length ctr 0 (cshL a l).length, .bool (decide (cshP a l))]) ⟨env, rows ++ [⟨ctr, 3, 1, (cshL a l).map (.int .i64)⟩], ctr + 1, low⟩) :
    CallB Tryz.prog 146 ⟨env, rows, ctr, low⟩ [.sl c a.length (a.map (.int .i64)), .sl d l.length (l.map (.int .i64))] k := callLB_in l3CutShape_sound (c, a, d, l) hpre h
abbrev shA (x : Nd) (ss : List (List Int)) : List Int := ss.getD x.a.toNat []
abbrev shB (x : Nd) (ss : List (List Int)) : List Int := ss.getD x.b.toNat []
def kOk (x : Nd) (ss : List (List Int)) : Prop :=
  x.op ≤ 1 ∨ x.op = 6 ∨ (2 ≤ x.op ∧ x.op ≤ 5 ∧ jOk (shA x ss) (shB x ss) = true) ∨ (x.op = 7 ∧ 0 ≤ x.l.getD (Int.toNat 0) 0 ∧ x.l.getD (Int.toNat 0) 0 < (shA x ss).length) ∨ (x.op = 8 ∧ tsOk (shA x ss) x.l = true) ∨
  (x.op = 9 ∧ countOf x.l = cntTo (shA x ss) (shA x ss).length) ∨ (x.op = 10 ∧ cshP (shA x ss) x.l) ∨ (x.op = 11 ∧ bshP (shA x ss) (shB x ss) (x.l.getD (Int.toNat 0) 0)) ∨ (x.op = 12 ∧ (shA x ss).length = 2 ∧ (shB x ss).length = 2 ∧ (shA x ss).getD (Int.toNat 1) 0 = (shB x ss).getD (Int.toNat 0) 0)
instance (x : Nd) (ss : List (List Int)) : Decidable (kOk x ss) := by unfold kOk; infer_instance
def kL (x : Nd) (ss ins : List (List Int)) : List Int :=
  if x.op = 0 then ins.getD x.a.toNat [] else if x.op = 1 then [] else if x.op = 6 then shA x ss else if x.op = 7 then wo (shA x ss) (x.l.getD (Int.toNat 0) 0).toNat else if x.op = 8 then tsL (shA x ss) x.l else if x.op = 9 then x.l
  else if x.op = 10 then cshL (shA x ss) x.l else if x.op = 11 then bshL (shA x ss) (shB x ss) (x.l.getD (Int.toNat 0) 0) else if x.op = 12 then [(shA x ss).getD (Int.toNat 0) 0, (shB x ss).getD (Int.toNat 1) 0] else jL (shA x ss) (shB x ss)
def spL (x : Nd) (ss ins : List (List Int)) : List Int := if (x.op = 7 ∨ x.op = 12) ∧ ¬ kOk x ss then [] else kL x ss ins
theorem spL_ok {x : Nd} {ss ins : List (List Int)} (h : kOk x ss) : spL x ss ins = kL x ss ins := if_neg fun h' => h'.2 h
theorem l2Without_calli {c : Nat} {xs : List Int} {i : Int} {env : List AV} {rows : List Row} {ctr low : Nat} {k : AV → St → Prop} (hpre : xs.length ≤ 1048576 ∧ 0 ≤ i ∧ i < xs.length) (h : k (.ref rows.length ctr 0 (wo xs i.toNat).length) ⟨env, rows ++ [⟨ctr, 3, 1, (wo xs i.toNat).map (.int .i64)⟩], ctr + 1, low⟩) :
    CallB Tryz.prog 143 ⟨env, rows, ctr, low⟩ [.sl c xs.length (xs.map (.int .i64)), .int .i64 i] k := by
  obtain ⟨a, rfl⟩ : ∃ a : Nat, i = a := ⟨i.toNat, by omega⟩
  exact l2Without_call (by omega) h
def allOk (ss : List (List Int)) : Prop := ∀ j, j < ss.length → shapeOk (ss.getD j []) = true
end Go.Proofs.YtjmdhfjemaoebaaGreat
