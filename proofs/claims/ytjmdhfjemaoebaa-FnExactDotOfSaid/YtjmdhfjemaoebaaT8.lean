import Derived.Test.YtjmdhfjemaoebaaM12x1
import Derived.Test.YtjmdhfjemaoebaaM12x3
import Derived.Test.YtjmdhfjemaoebaaM012x20
import Derived.Test.YtjmdhfjemaoebaaM012x21
import Derived.Test.YtjmdhfjemaoebaaM12x4
/- Chapter 3: what comes of the tensors of the parts of a node; noughts. -/
namespace Go.Proofs.Ytjmdhfjemaoebaa
set_option maxRecDepth 20000
open Go.RowKit Go.Am
set_option linter.unusedSimpArgs false
attribute [local irreducible] aPlan aGet aIf aLoop aCall RetB NextB CallB CallG aCut aSet aAppend

def zsOf (xs : List Int) : List Int := List.replicate (countOf xs).toNat 0
theorem retTc {env : List AV} {rows : List Row} {ctr τ1 τ2 v1 v2 n1 n2 : Nat} {t : TypeId} {xs ys xs' ys' : List Int} {cells : List AV} (hne : τ1 ≠ τ2) (h1 : rows[τ1]? = some ⟨v1, t, 1, xs.map (.int .i64)⟩) (h2 : rows[τ2]? = some ⟨v2, t, 1, cells⟩) (hc : cells = ys.map (.int .i64))
    (e1 : n1 = xs.length) (e2 : n2 = ys.length) (hx : xs = xs') (hy : ys = ys') :
    RetB ⟨env, rows, ctr, 0⟩ [] (fun r ic news => ic = [] ∧ r = .agg [.ref 0 0 0 xs'.length, .ref 1 0 0 ys'.length] ∧ news = [rowL t xs', rowL t ys']) (.agg [.ref τ1 v1 0 n1, .ref τ2 v2 0 n2]) := by
  subst hc; exact retTe hne h1 h2 e1 e2 hx hy
theorem noughtsOf_sound : Sound Try.prog 142 (fnT (ι := Nat × List Int) 3 (fun | (c, xs) => [.sl c xs.length (xs.map (.int .i64))]) (fun | (_, xs) => shapeOk xs = true) (fun | (_, xs) => xs) (fun | (_, xs) => zsOf xs)) := by
  refine sound_of Try.func142 rfl (enters_of Try.func142 (by kernel_rfl) (by kernel_rfl)) ?_
  rintro ⟨c, xs⟩ hpre
  have hs : shapeOk xs = true := hpre
  have h3 := ((shapeOk_iff _).1 hs).1
  have hc := cnt64 hs (Nat.le_refl _)
  have he : countOf xs = cntTo xs xs.length := if_pos hs
  conv => whnf
  repeat' (first
    | (refine And.intro (And.intro (Int.le_refl _) (And.intro (by kernel_rfl) (And.intro rfl (by kernel_rfl)))) (And.intro (And.intro (by omega) (And.intro (bytes_le (b := 8) rfl (by omega)) (by omega))) ?_); conv => whnf)
    | (refine And.intro (Nat.le_of_ble_eq_true rfl) ?_; conv => whnf)
    | (refine callG_t ?_; conv => whnf)
    | (refine copyNums_call (by omega) ?_; conv => whnf)
    | (refine append_same ?_; conv => whnf)
    | (refine takeN_in ?_; conv => whnf)
    | (refine And.intro (pureL_ints _ _) ?_; conv => whnf)
    | (refine iCountOf_call ?_; conv => whnf)
    | (refine set_force ?_; conv => whnf)
    | (refine And.intro (by kernel_rfl) ?_; conv => whnf))
  exact retTc (by decide) rfl rfl (rep_ints _ _) rfl (by simp [zsOf]) rfl rfl
theorem noughtsOf_call {c : Nat} {xs : List Int} {env : List AV} {rows : List Row} {ctr low : Nat} {k : AV → St → Prop} (hpre : shapeOk xs = true)
    (hk : k (.agg [.ref rows.length ctr 0 xs.length, .ref (rows.length + 1) ctr 0 (zsOf xs).length]) ⟨env, rows ++ [⟨ctr, 3, 1, xs.map (.int .i64)⟩, ⟨ctr, 3, 1, (zsOf xs).map (.int .i64)⟩], ctr + 1, low⟩) :
    CallB Try.prog 142 ⟨env, rows, ctr, low⟩ [.sl c xs.length (xs.map (.int .i64))] k := callT_in noughtsOf_sound (c, xs) hpre hk

def wfL (l : List Int) : Prop := ∀ j, (Lit.int .i64 (l.getD j 0)).wf = true
/-- What comes of two tensors at a node. -/
def comM (x : Nd) (xs zs ps qs : List Int) : TM :=
  if x.op = 6 then negM xs zs else if x.op = 7 then sumM xs zs (x.l.getD (Int.toNat 0) 0) else if x.op = 8 then turnM xs zs x.l else if x.op = 9 then foldM xs zs x.l
  else if x.op = 10 then cutM xs zs (x.l.getD (Int.toNat 0) 0) (x.l.getD (Int.toNat 1) 0) (x.l.getD (Int.toNat 2) 0) else if x.op = 11 then bsM xs zs ps qs (x.l.getD (Int.toNat 0) 0) else if x.op = 12 then prM xs zs ps qs
  else twoM (IntKind.i64.wrap (IntKind.i64.wrap (x.op - 2) + 0)) xs zs ps qs
set_option maxHeartbeats 8000000 in
theorem comesOf_sound : Sound Try.prog 164 (fnTB (ι := Nat × Nd × Nat × List Int × Nat × List Int × Nat × List Int × Nat × List Int) 3 (fun | (b, x, c, xs, d, zs, e, ps, f, qs) => [.agg [.int .i64 x.op, .int .i64 x.a, .int .i64 x.b, .sl b x.l.length (x.l.map (.int .i64))], .agg [.sl c xs.length (xs.map (.int .i64)), .sl d zs.length (zs.map (.int .i64))], .agg [.sl e ps.length (ps.map (.int .i64)), .sl f qs.length (qs.map (.int .i64))]]) (fun | (_, x, _, xs, _, _, _, _, _, _) => lsP x ∧ xs.length ≤ 1048576 ∧ x.l.length ≤ 1048576 ∧ wfL x.l) (fun | (_, x, _, xs, _, zs, _, ps, _, qs) => comM x xs zs ps qs)) := by
  refine sound_of Try.func164 rfl (enters_of Try.func164 (by kernel_rfl) (by kernel_rfl)) ?_
  rintro ⟨b, x, c, xs, d, zs, e, ps, f, qs⟩ hpre
  have hpre : lsP x ∧ xs.length ≤ 1048576 ∧ x.l.length ≤ 1048576 ∧ wfL x.l := hpre
  obtain ⟨hl, hx, hxl, hwf⟩ := hpre
  unfold lsP at hl
  have hw1 := hwf (Int.toNat 1)
  have hw2 := hwf (Int.toNat 2)
  by_cases o6 : x.op = 6
  · have hM : comM x xs zs ps qs = ((negM xs zs).1, (negM xs zs).2.1, (negM xs zs).2.2) := by simp [comM, o6]
    conv => whnf
    repeat' (first
      | (refine plan_in (id := 5) [0, 1, 2, 3, 4, 5, 6, 7, 8, 9] (by kernel_rfl) (by kernel_rfl) ?_; conv => whnf)
      | (refine plan_in (id := 11) [0, 1, 2, 3, 4, 5, 6, 7, 8, 9, 10, 11, 12, 13, 14, 15, 16, 17] (by kernel_rfl) (by kernel_rfl) ?_; conv => whnf)
      | (refine plan_in (id := 13) [0, 1, 2, 3, 4, 5, 6, 7, 8, 9, 10] (by kernel_rfl) (by kernel_rfl) ?_; conv => whnf)
      | (refine get_nat (by omega) ?_; conv => whnf)
      | (refine aGet_in rfl ?_; conv => whnf)
      | (refine And.intro (by omega) ?_; conv => whnf)
      | (refine load_same ?_; conv => whnf)
      | (refine And.intro rfl (And.intro (List.cons_ne_nil _ _) ?_); conv => whnf)
      | (refine And.intro (Nat.le_of_ble_eq_true rfl) ?_; conv => whnf)
      | (refine callG_t ?_; conv => whnf)
      | (refine iProductOf_call trivial ?_; conv => whnf)
      | (refine iTwoOf_call trivial ?_; conv => whnf)
      | (refine iTurnOf_call (by omega) ?_; conv => whnf)
      | (refine iSumAlong_call (by omega) ?_; conv => whnf)
      | (refine iCutOf_call (And.intro (by omega) (And.intro (by assumption) (by assumption))) ?_; conv => whnf)
      | (refine iNegOf_call ?_; conv => whnf)
      | (refine iFoldOf_call (by omega) ?_; conv => whnf)
      | (refine append_same ?_; conv => whnf)
      | (refine iBesideOf_call trivial ?_; conv => whnf)
      | (refine takeN_in ?_; conv => whnf)
      | (refine And.intro (pureL_ints _ _) ?_; conv => whnf)
      | (refine set_force ?_; conv => whnf)
      | (refine And.intro (by kernel_rfl) ?_; conv => whnf)
      | (refine aIf_dec (fun _ => ?_) (fun _ => ?_) <;> conv => whnf))
    all_goals (first | (exfalso; omega) | skip)
    refine retTB (hM := hM) ?_ ?_ ?_ ?_ ?_
    all_goals (first | exact rfl | decide | (simp; done))
  · by_cases o7 : x.op = 7
    · have hM : comM x xs zs ps qs = ((sumM xs zs (x.l.getD (Int.toNat 0) 0)).1, (sumM xs zs (x.l.getD (Int.toNat 0) 0)).2.1, (sumM xs zs (x.l.getD (Int.toNat 0) 0)).2.2) := by simp [comM, o7]
      have hll : x.l.length = 1 := by omega
      have t0 : Int.toNat 0 = 0 := rfl
      have t1 : Int.toNat 1 = 1 := rfl
      have t2 : Int.toNat 2 = 2 := rfl
      conv => whnf
      repeat' (first
        | (refine plan_in (id := 5) [0, 1, 2, 3, 4, 5, 6, 7, 8, 9] (by kernel_rfl) (by kernel_rfl) ?_; conv => whnf)
        | (refine plan_in (id := 11) [0, 1, 2, 3, 4, 5, 6, 7, 8, 9, 10, 11, 12, 13, 14, 15, 16, 17] (by kernel_rfl) (by kernel_rfl) ?_; conv => whnf)
        | (refine plan_in (id := 13) [0, 1, 2, 3, 4, 5, 6, 7, 8, 9, 10] (by kernel_rfl) (by kernel_rfl) ?_; conv => whnf)
        | (refine get_nat (by omega) ?_; conv => whnf)
        | (refine get_int (by omega) ?_; conv => whnf)
        | (refine aGet_in rfl ?_; conv => whnf)
        | (refine And.intro (by omega) ?_; conv => whnf)
        | (refine load_same ?_; conv => whnf)
        | (refine And.intro rfl (And.intro (List.cons_ne_nil _ _) ?_); conv => whnf)
        | (refine And.intro (Nat.le_of_ble_eq_true rfl) ?_; conv => whnf)
        | (refine callG_t ?_; conv => whnf)
        | (refine iProductOf_call trivial ?_; conv => whnf)
        | (refine iTwoOf_call trivial ?_; conv => whnf)
        | (refine iTurnOf_call (by omega) ?_; conv => whnf)
        | (refine iSumAlong_call (by omega) ?_; conv => whnf)
        | (refine iCutOf_call (And.intro (by omega) (And.intro (by assumption) (by assumption))) ?_; conv => whnf)
        | (refine iNegOf_call ?_; conv => whnf)
        | (refine iFoldOf_call (by omega) ?_; conv => whnf)
        | (refine append_same ?_; conv => whnf)
        | (refine iBesideOf_call trivial ?_; conv => whnf)
        | (refine takeN_in ?_; conv => whnf)
        | (refine And.intro (pureL_ints _ _) ?_; conv => whnf)
        | (refine set_force ?_; conv => whnf)
        | (refine And.intro (by kernel_rfl) ?_; conv => whnf)
        | (refine aIf_dec (fun _ => ?_) (fun _ => ?_) <;> conv => whnf))
      all_goals (first | (exfalso; omega) | skip)
      refine retTB (hM := hM) ?_ ?_ ?_ ?_ ?_
      all_goals (first | exact rfl | decide | (simp; done))
    · by_cases o8 : x.op = 8
      · have hM : comM x xs zs ps qs = ((turnM xs zs x.l).1, (turnM xs zs x.l).2.1, (turnM xs zs x.l).2.2) := by simp [comM, o8]
        conv => whnf
        repeat' (first
          | (refine plan_in (id := 5) [0, 1, 2, 3, 4, 5, 6, 7, 8, 9] (by kernel_rfl) (by kernel_rfl) ?_; conv => whnf)
          | (refine plan_in (id := 11) [0, 1, 2, 3, 4, 5, 6, 7, 8, 9, 10, 11, 12, 13, 14, 15, 16, 17] (by kernel_rfl) (by kernel_rfl) ?_; conv => whnf)
          | (refine plan_in (id := 13) [0, 1, 2, 3, 4, 5, 6, 7, 8, 9, 10] (by kernel_rfl) (by kernel_rfl) ?_; conv => whnf)
          | (refine get_nat (by omega) ?_; conv => whnf)
          | (refine aGet_in rfl ?_; conv => whnf)
          | (refine And.intro (by omega) ?_; conv => whnf)
          | (refine load_same ?_; conv => whnf)
          | (refine And.intro rfl (And.intro (List.cons_ne_nil _ _) ?_); conv => whnf)
          | (refine And.intro (Nat.le_of_ble_eq_true rfl) ?_; conv => whnf)
          | (refine callG_t ?_; conv => whnf)
          | (refine iProductOf_call trivial ?_; conv => whnf)
          | (refine iTwoOf_call trivial ?_; conv => whnf)
          | (refine iTurnOf_call (by omega) ?_; conv => whnf)
          | (refine iSumAlong_call (by omega) ?_; conv => whnf)
          | (refine iCutOf_call (And.intro (by omega) (And.intro (by assumption) (by assumption))) ?_; conv => whnf)
          | (refine iNegOf_call ?_; conv => whnf)
          | (refine iFoldOf_call (by omega) ?_; conv => whnf)
          | (refine append_same ?_; conv => whnf)
          | (refine iBesideOf_call trivial ?_; conv => whnf)
          | (refine takeN_in ?_; conv => whnf)
          | (refine And.intro (pureL_ints _ _) ?_; conv => whnf)
          | (refine set_force ?_; conv => whnf)
          | (refine And.intro (by kernel_rfl) ?_; conv => whnf)
          | (refine aIf_dec (fun _ => ?_) (fun _ => ?_) <;> conv => whnf))
        all_goals (first | (exfalso; omega) | skip)
        refine retTB (hM := hM) ?_ ?_ ?_ ?_ ?_
        all_goals (first | exact rfl | decide | (simp; done))
      · by_cases o9 : x.op = 9
        · have hM : comM x xs zs ps qs = ((foldM xs zs x.l).1, (foldM xs zs x.l).2.1, (foldM xs zs x.l).2.2) := by simp [comM, o9]
          conv => whnf
          repeat' (first
            | (refine plan_in (id := 5) [0, 1, 2, 3, 4, 5, 6, 7, 8, 9] (by kernel_rfl) (by kernel_rfl) ?_; conv => whnf)
            | (refine plan_in (id := 11) [0, 1, 2, 3, 4, 5, 6, 7, 8, 9, 10, 11, 12, 13, 14, 15, 16, 17] (by kernel_rfl) (by kernel_rfl) ?_; conv => whnf)
            | (refine plan_in (id := 13) [0, 1, 2, 3, 4, 5, 6, 7, 8, 9, 10] (by kernel_rfl) (by kernel_rfl) ?_; conv => whnf)
            | (refine get_nat (by omega) ?_; conv => whnf)
            | (refine aGet_in rfl ?_; conv => whnf)
            | (refine And.intro (by omega) ?_; conv => whnf)
            | (refine load_same ?_; conv => whnf)
            | (refine And.intro rfl (And.intro (List.cons_ne_nil _ _) ?_); conv => whnf)
            | (refine And.intro (Nat.le_of_ble_eq_true rfl) ?_; conv => whnf)
            | (refine callG_t ?_; conv => whnf)
            | (refine iProductOf_call trivial ?_; conv => whnf)
            | (refine iTwoOf_call trivial ?_; conv => whnf)
            | (refine iTurnOf_call (by omega) ?_; conv => whnf)
            | (refine iSumAlong_call (by omega) ?_; conv => whnf)
            | (refine iCutOf_call (And.intro (by omega) (And.intro (by assumption) (by assumption))) ?_; conv => whnf)
            | (refine iNegOf_call ?_; conv => whnf)
            | (refine iFoldOf_call (by omega) ?_; conv => whnf)
            | (refine append_same ?_; conv => whnf)
            | (refine iBesideOf_call trivial ?_; conv => whnf)
            | (refine takeN_in ?_; conv => whnf)
            | (refine And.intro (pureL_ints _ _) ?_; conv => whnf)
            | (refine set_force ?_; conv => whnf)
            | (refine And.intro (by kernel_rfl) ?_; conv => whnf)
            | (refine aIf_dec (fun _ => ?_) (fun _ => ?_) <;> conv => whnf))
          all_goals (first | (exfalso; omega) | skip)
          refine retTB (hM := hM) ?_ ?_ ?_ ?_ ?_
          all_goals (first | exact rfl | decide | (simp; done))
        · by_cases o10 : x.op = 10
          · have hM : comM x xs zs ps qs = ((cutM xs zs (x.l.getD (Int.toNat 0) 0) (x.l.getD (Int.toNat 1) 0) (x.l.getD (Int.toNat 2) 0)).1, (cutM xs zs (x.l.getD (Int.toNat 0) 0) (x.l.getD (Int.toNat 1) 0) (x.l.getD (Int.toNat 2) 0)).2.1, (cutM xs zs (x.l.getD (Int.toNat 0) 0) (x.l.getD (Int.toNat 1) 0) (x.l.getD (Int.toNat 2) 0)).2.2) := by simp [comM, o10]
            have hll : x.l.length = 3 := by omega
            have t0 : Int.toNat 0 = 0 := rfl
            have t1 : Int.toNat 1 = 1 := rfl
            have t2 : Int.toNat 2 = 2 := rfl
            conv => whnf
            repeat' (first
              | (refine plan_in (id := 5) [0, 1, 2, 3, 4, 5, 6, 7, 8, 9] (by kernel_rfl) (by kernel_rfl) ?_; conv => whnf)
              | (refine plan_in (id := 11) [0, 1, 2, 3, 4, 5, 6, 7, 8, 9, 10, 11, 12, 13, 14, 15, 16, 17] (by kernel_rfl) (by kernel_rfl) ?_; conv => whnf)
              | (refine plan_in (id := 13) [0, 1, 2, 3, 4, 5, 6, 7, 8, 9, 10] (by kernel_rfl) (by kernel_rfl) ?_; conv => whnf)
              | (refine get_nat (by omega) ?_; conv => whnf)
              | (refine get_int (by omega) ?_; conv => whnf)
              | (refine aGet_in rfl ?_; conv => whnf)
              | (refine And.intro (by omega) ?_; conv => whnf)
              | (refine load_same ?_; conv => whnf)
              | (refine And.intro rfl (And.intro (List.cons_ne_nil _ _) ?_); conv => whnf)
              | (refine And.intro (Nat.le_of_ble_eq_true rfl) ?_; conv => whnf)
              | (refine callG_t ?_; conv => whnf)
              | (refine iProductOf_call trivial ?_; conv => whnf)
              | (refine iTwoOf_call trivial ?_; conv => whnf)
              | (refine iTurnOf_call (by omega) ?_; conv => whnf)
              | (refine iSumAlong_call (by omega) ?_; conv => whnf)
              | (refine iCutOf_call (And.intro (by omega) (And.intro (by assumption) (by assumption))) ?_; conv => whnf)
              | (refine iNegOf_call ?_; conv => whnf)
              | (refine iFoldOf_call (by omega) ?_; conv => whnf)
              | (refine append_same ?_; conv => whnf)
              | (refine iBesideOf_call trivial ?_; conv => whnf)
              | (refine takeN_in ?_; conv => whnf)
              | (refine And.intro (pureL_ints _ _) ?_; conv => whnf)
              | (refine set_force ?_; conv => whnf)
              | (refine And.intro (by kernel_rfl) ?_; conv => whnf)
              | (refine aIf_dec (fun _ => ?_) (fun _ => ?_) <;> conv => whnf))
            all_goals (first | (exfalso; omega) | skip)
            refine retTB (hM := hM) ?_ ?_ ?_ ?_ ?_
            all_goals (first | exact rfl | decide | (simp; done))
          · by_cases o11 : x.op = 11
            · have hM : comM x xs zs ps qs = ((bsM xs zs ps qs (x.l.getD (Int.toNat 0) 0)).1, (bsM xs zs ps qs (x.l.getD (Int.toNat 0) 0)).2.1, (bsM xs zs ps qs (x.l.getD (Int.toNat 0) 0)).2.2) := by simp [comM, o11]
              have hll : x.l.length = 1 := by omega
              have t0 : Int.toNat 0 = 0 := rfl
              have t1 : Int.toNat 1 = 1 := rfl
              have t2 : Int.toNat 2 = 2 := rfl
              conv => whnf
              repeat' (first
                | (refine plan_in (id := 5) [0, 1, 2, 3, 4, 5, 6, 7, 8, 9] (by kernel_rfl) (by kernel_rfl) ?_; conv => whnf)
                | (refine plan_in (id := 11) [0, 1, 2, 3, 4, 5, 6, 7, 8, 9, 10, 11, 12, 13, 14, 15, 16, 17] (by kernel_rfl) (by kernel_rfl) ?_; conv => whnf)
                | (refine plan_in (id := 13) [0, 1, 2, 3, 4, 5, 6, 7, 8, 9, 10] (by kernel_rfl) (by kernel_rfl) ?_; conv => whnf)
                | (refine get_nat (by omega) ?_; conv => whnf)
                | (refine get_int (by omega) ?_; conv => whnf)
                | (refine aGet_in rfl ?_; conv => whnf)
                | (refine And.intro (by omega) ?_; conv => whnf)
                | (refine load_same ?_; conv => whnf)
                | (refine And.intro rfl (And.intro (List.cons_ne_nil _ _) ?_); conv => whnf)
                | (refine And.intro (Nat.le_of_ble_eq_true rfl) ?_; conv => whnf)
                | (refine callG_t ?_; conv => whnf)
                | (refine iProductOf_call trivial ?_; conv => whnf)
                | (refine iTwoOf_call trivial ?_; conv => whnf)
                | (refine iTurnOf_call (by omega) ?_; conv => whnf)
                | (refine iSumAlong_call (by omega) ?_; conv => whnf)
                | (refine iCutOf_call (And.intro (by omega) (And.intro (by assumption) (by assumption))) ?_; conv => whnf)
                | (refine iNegOf_call ?_; conv => whnf)
                | (refine iFoldOf_call (by omega) ?_; conv => whnf)
                | (refine append_same ?_; conv => whnf)
                | (refine iBesideOf_call trivial ?_; conv => whnf)
                | (refine takeN_in ?_; conv => whnf)
                | (refine And.intro (pureL_ints _ _) ?_; conv => whnf)
                | (refine set_force ?_; conv => whnf)
                | (refine And.intro (by kernel_rfl) ?_; conv => whnf)
                | (refine aIf_dec (fun _ => ?_) (fun _ => ?_) <;> conv => whnf))
              all_goals (first | (exfalso; omega) | skip)
              refine retTB (hM := hM) ?_ ?_ ?_ ?_ ?_
              all_goals (first | exact rfl | decide | (simp; done))
            · by_cases o12 : x.op = 12
              · have hM : comM x xs zs ps qs = ((prM xs zs ps qs).1, (prM xs zs ps qs).2.1, (prM xs zs ps qs).2.2) := by simp [comM, o12]
                conv => whnf
                repeat' (first
                  | (refine plan_in (id := 5) [0, 1, 2, 3, 4, 5, 6, 7, 8, 9] (by kernel_rfl) (by kernel_rfl) ?_; conv => whnf)
                  | (refine plan_in (id := 11) [0, 1, 2, 3, 4, 5, 6, 7, 8, 9, 10, 11, 12, 13, 14, 15, 16, 17] (by kernel_rfl) (by kernel_rfl) ?_; conv => whnf)
                  | (refine plan_in (id := 13) [0, 1, 2, 3, 4, 5, 6, 7, 8, 9, 10] (by kernel_rfl) (by kernel_rfl) ?_; conv => whnf)
                  | (refine get_nat (by omega) ?_; conv => whnf)
                  | (refine aGet_in rfl ?_; conv => whnf)
                  | (refine And.intro (by omega) ?_; conv => whnf)
                  | (refine load_same ?_; conv => whnf)
                  | (refine And.intro rfl (And.intro (List.cons_ne_nil _ _) ?_); conv => whnf)
                  | (refine And.intro (Nat.le_of_ble_eq_true rfl) ?_; conv => whnf)
                  | (refine callG_t ?_; conv => whnf)
                  | (refine iProductOf_call trivial ?_; conv => whnf)
                  | (refine iTwoOf_call trivial ?_; conv => whnf)
                  | (refine iTurnOf_call (by omega) ?_; conv => whnf)
                  | (refine iSumAlong_call (by omega) ?_; conv => whnf)
                  | (refine iCutOf_call (And.intro (by omega) (And.intro (by assumption) (by assumption))) ?_; conv => whnf)
                  | (refine iNegOf_call ?_; conv => whnf)
                  | (refine iFoldOf_call (by omega) ?_; conv => whnf)
                  | (refine append_same ?_; conv => whnf)
                  | (refine iBesideOf_call trivial ?_; conv => whnf)
                  | (refine takeN_in ?_; conv => whnf)
                  | (refine And.intro (pureL_ints _ _) ?_; conv => whnf)
                  | (refine set_force ?_; conv => whnf)
                  | (refine And.intro (by kernel_rfl) ?_; conv => whnf)
                  | (refine aIf_dec (fun _ => ?_) (fun _ => ?_) <;> conv => whnf))
                all_goals (first | (exfalso; omega) | skip)
                refine retTB (hM := hM) ?_ ?_ ?_ ?_ ?_
                all_goals (first | exact rfl | decide | (simp; done))
              · have hM : comM x xs zs ps qs = ((twoM (IntKind.i64.wrap (IntKind.i64.wrap (x.op - 2) + 0)) xs zs ps qs).1, (twoM (IntKind.i64.wrap (IntKind.i64.wrap (x.op - 2) + 0)) xs zs ps qs).2.1, (twoM (IntKind.i64.wrap (IntKind.i64.wrap (x.op - 2) + 0)) xs zs ps qs).2.2) := by simp [comM, o6, o7, o8, o9, o10, o11, o12]
                conv => whnf
                repeat' (first
                  | (refine plan_in (id := 5) [0, 1, 2, 3, 4, 5, 6, 7, 8, 9] (by kernel_rfl) (by kernel_rfl) ?_; conv => whnf)
                  | (refine plan_in (id := 11) [0, 1, 2, 3, 4, 5, 6, 7, 8, 9, 10, 11, 12, 13, 14, 15, 16, 17] (by kernel_rfl) (by kernel_rfl) ?_; conv => whnf)
                  | (refine plan_in (id := 13) [0, 1, 2, 3, 4, 5, 6, 7, 8, 9, 10] (by kernel_rfl) (by kernel_rfl) ?_; conv => whnf)
                  | (refine get_nat (by omega) ?_; conv => whnf)
                  | (refine aGet_in rfl ?_; conv => whnf)
                  | (refine And.intro (by omega) ?_; conv => whnf)
                  | (refine load_same ?_; conv => whnf)
                  | (refine And.intro rfl (And.intro (List.cons_ne_nil _ _) ?_); conv => whnf)
                  | (refine And.intro (Nat.le_of_ble_eq_true rfl) ?_; conv => whnf)
                  | (refine callG_t ?_; conv => whnf)
                  | (refine iProductOf_call trivial ?_; conv => whnf)
                  | (refine iTwoOf_call trivial ?_; conv => whnf)
                  | (refine iTurnOf_call (by omega) ?_; conv => whnf)
                  | (refine iSumAlong_call (by omega) ?_; conv => whnf)
                  | (refine iCutOf_call (And.intro (by omega) (And.intro (by assumption) (by assumption))) ?_; conv => whnf)
                  | (refine iNegOf_call ?_; conv => whnf)
                  | (refine iFoldOf_call (by omega) ?_; conv => whnf)
                  | (refine append_same ?_; conv => whnf)
                  | (refine iBesideOf_call trivial ?_; conv => whnf)
                  | (refine takeN_in ?_; conv => whnf)
                  | (refine And.intro (pureL_ints _ _) ?_; conv => whnf)
                  | (refine set_force ?_; conv => whnf)
                  | (refine And.intro (by kernel_rfl) ?_; conv => whnf)
                  | (refine aIf_dec (fun _ => ?_) (fun _ => ?_) <;> conv => whnf))
                all_goals (first | (exfalso; omega) | skip)
                refine retTB (hM := hM) ?_ ?_ ?_ ?_ ?_
                all_goals (first | exact rfl | decide | (simp; done))
theorem comesOf_call {b c d e f : Nat} {x : Nd} {xs zs ps qs : List Int} {env : List AV} {rows : List Row} {ctr low : Nat} {k : AV → St → Prop} (hpre : lsP x ∧ xs.length ≤ 1048576 ∧ x.l.length ≤ 1048576 ∧ wfL x.l)
    (hk : k (.tup [.agg [.ref rows.length ctr 0 (comM x xs zs ps qs).1.length, .ref (rows.length + 1) ctr 0 (comM x xs zs ps qs).2.1.length], .bool (comM x xs zs ps qs).2.2]) ⟨env, rows ++ [⟨ctr, 3, 1, (comM x xs zs ps qs).1.map (.int .i64)⟩, ⟨ctr, 3, 1, (comM x xs zs ps qs).2.1.map (.int .i64)⟩], ctr + 1, low⟩) :
    CallB Try.prog 164 ⟨env, rows, ctr, low⟩ [.agg [.int .i64 x.op, .int .i64 x.a, .int .i64 x.b, .sl b x.l.length (x.l.map (.int .i64))], .agg [.sl c xs.length (xs.map (.int .i64)), .sl d zs.length (zs.map (.int .i64))], .agg [.sl e ps.length (ps.map (.int .i64)), .sl f qs.length (qs.map (.int .i64))]] k := callTB_in comesOf_sound (b, x, c, xs, d, zs, e, ps, f, qs) hpre hk
end Go.Proofs.Ytjmdhfjemaoebaa
