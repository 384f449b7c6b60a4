import Derived.Test.YtjmdhfjemaoebaaM12x1
import Derived.Test.YtjmdhfjemaoebaaM12x4
import Derived.Test.YtjmdhfjemaoebaaM012x18
import Derived.Test.YtjmdhfjemaoebaaM012x14
import Derived.Test.YtjmdhfjemaoebaaM012x16
import Derived.Test.YtjmdhfjemaoebaaM012x12
import Derived.Test.YtjmdhfjemaoebaaT8
import Derived.Test.YtjmdhfjemaoebaaM12x3
/- Chapter 3: what a node has, of its kind: the model's. -/
namespace Go.Proofs.Ytjmdhfjemaoebaa
set_option maxRecDepth 20000
open Go.RowKit Go.Am
set_option linter.unusedSimpArgs false
attribute [local irreducible] aPlan aGet aIf aLoop aCall RetB NextB CallB CallG aCut aSet aAppend

def twoP3 (op : Int) : Prop := (2 ≤ op ∧ op ≤ 5) ∨ op = 11 ∨ op = 12
instance (op : Int) : Decidable (twoP3 op) := by unfold twoP3; infer_instance
theorem l3Two_sound : Sound Try.prog 53 (fnS (ι := Int) (fun op => [.int .i64 op]) (fun _ => True) (fun op => .bool (decide (twoP3 op)))) := by
  refine sound_of Try.func53 rfl (enters_of Try.func53 (by kernel_rfl) (by kernel_rfl)) ?_
  intro (op : Int) _
  conv => whnf
  repeat' (first
    | (refine aIf_t ?_; conv => whnf)
    | (refine aIf_f ?_; conv => whnf)
    | (refine callG_t ?_; conv => whnf)
    | (refine append_same ?_; conv => whnf)
    | (refine in_call ?_; conv => whnf)
    | refine aIf_eqf ?_
    | (refine aIf_dec (fun _ => ?_) (fun _ => ?_) <;> conv => whnf))
  all_goals refine retS rfl (congrArg AV.bool (Bool.eq_iff_iff.2 ?_))
  all_goals simp only [decide_eq_true_eq, beq_iff_eq, bne_iff_ne, ne_eq, true_iff, false_iff, Bool.false_eq_true]
  all_goals (try unfold twoP3)
  all_goals (try unfold twoP3)
  all_goals omega
theorem l3Two_call {op : Int} {env : List AV} {rows : List Row} {ctr low : Nat} {k : AV → St → Prop} (hpre : True) (h : k (.bool (decide (twoP3 op))) ⟨env, rows, ctr + 1, low⟩) :
    CallB Try.prog 53 ⟨env, rows, ctr, low⟩ [.int .i64 op] k := callS_in l3Two_sound op hpre rfl h
theorem l3One_sound : Sound Try.prog 157 (fnS (ι := Int) (fun op => [.int .i64 op]) (fun _ => True) (fun op => .bool (decide (6 ≤ op ∧ op ≤ 10)))) := by
  refine sound_of Try.func157 rfl (enters_of Try.func157 (by kernel_rfl) (by kernel_rfl)) ?_
  intro (op : Int) _
  conv => whnf
  repeat' (first
    | (refine callG_t ?_; conv => whnf)
    | (refine append_same ?_; conv => whnf)
    | (refine in_call ?_; conv => whnf))
  all_goals refine retS rfl (congrArg AV.bool (Bool.eq_iff_iff.2 ?_))
  all_goals simp only [decide_eq_true_eq, beq_iff_eq, bne_iff_ne, ne_eq, true_iff, false_iff, Bool.false_eq_true]
  all_goals (try unfold twoP3)
  all_goals (try unfold twoP3)
  all_goals omega
theorem l3One_call {op : Int} {env : List AV} {rows : List Row} {ctr low : Nat} {k : AV → St → Prop} (hpre : True) (h : k (.bool (decide (6 ≤ op ∧ op ≤ 10))) ⟨env, rows, ctr + 1, low⟩) :
    CallB Try.prog 157 ⟨env, rows, ctr, low⟩ [.int .i64 op] k := callS_in l3One_sound op hpre rfl h
def lcN (op : Int) : Int := if op = 7 ∨ op = 11 then 1 else if op = 10 then 3 else if op = 8 ∨ op = 9 then -1 else 0
theorem lcN_cases (op : Int) : ((op = 7 ∨ op = 11) ∧ lcN op = 1) ∨ (op = 10 ∧ lcN op = 3) ∨ ((op = 8 ∨ op = 9) ∧ lcN op = -1) ∨ (¬ (op = 7 ∨ op = 11) ∧ ¬ op = 10 ∧ ¬ (op = 8 ∨ op = 9) ∧ lcN op = 0) := by
  unfold lcN
  split
  · exact .inl ⟨by assumption, rfl⟩
  · split
    · exact .inr (.inl ⟨by assumption, rfl⟩)
    · split
      · exact .inr (.inr (.inl ⟨by assumption, rfl⟩))
      · exact .inr (.inr (.inr ⟨by assumption, by assumption, by assumption, rfl⟩))
theorem l3Lists_sound : Sound Try.prog 156 (fnS (ι := Int) (fun op => [.int .i64 op]) (fun _ => True) (fun op => .int .i64 (lcN op))) := by
  refine sound_of Try.func156 rfl (enters_of Try.func156 (by kernel_rfl) (by kernel_rfl)) ?_
  intro (op : Int) _
  have h := lcN_cases op
  conv => whnf
  repeat' (first
    | (refine aIf_t ?_; conv => whnf)
    | (refine aIf_f ?_; conv => whnf)
    | (refine append_same ?_; conv => whnf)
    | refine aIf_eqf ?_
    | (refine aIf_dec (fun _ => ?_) (fun _ => ?_) <;> conv => whnf))
  all_goals exact retS rfl (int_eq (by omega))
theorem l3Lists_call {op : Int} {env : List AV} {rows : List Row} {ctr low : Nat} {k : AV → St → Prop} (hpre : True) (h : k (.int .i64 (lcN op)) ⟨env, rows, ctr + 1, low⟩) :
    CallB Try.prog 156 ⟨env, rows, ctr, low⟩ [.int .i64 op] k := callS_in l3Lists_sound op hpre rfl h
set_option maxHeartbeats 4000000 in
theorem l3Form_sound : Sound Try.prog 151 (fnS (ι := Nat × Nd × Nat × Nat) (fun | (c, x, k, n) => [.agg [.int .i64 x.op, .int .i64 x.a, .int .i64 x.b, .sl c x.l.length (x.l.map (.int .i64))], .int .i64 k, .int .i64 n]) (fun | (_, _, k, n) => k ≤ 100 ∧ n ≤ 100) (fun | (_, x, k, n) => .bool (decide (formP x k n)))) := by
  refine sound_of Try.func151 rfl (enters_of Try.func151 (by kernel_rfl) (by kernel_rfl)) ?_
  rintro ⟨c, x, k, n⟩ hpre
  have hpre : k ≤ 100 ∧ n ≤ 100 := hpre
  have h := lcN_cases x.op
  have w1 : IntKind.i64.wrap ((n : Int) - 1) = n - 1 := IntWalk.i64_in _ (by omega)
  have w2 : IntKind.i64.wrap ((k : Int) - 1) = k - 1 := IntWalk.i64_in _ (by omega)
  conv => whnf
  repeat' (first
    | (refine aIf_t ?_; conv => whnf)
    | (refine aIf_f ?_; conv => whnf)
    | (refine fun (_ : _ ≤ maxLen) => ?_; conv => whnf)
    | (refine aGet_in rfl ?_; conv => whnf)
    | (refine And.intro rfl (And.intro (List.cons_ne_nil _ _) ?_); conv => whnf)
    | (refine callG_t ?_; conv => whnf)
    | (refine append_same ?_; conv => whnf)
    | (refine l3Two_call trivial ?_; conv => whnf)
    | (refine l3One_call trivial ?_; conv => whnf)
    | (refine l3Lists_call trivial ?_; conv => whnf)
    | (refine in_call ?_; conv => whnf)
    | refine aIf_eqt ?_
    | refine aIf_not ?_
    | (refine aIf_dec (fun _ => ?_) (fun _ => ?_) <;> conv => whnf))
  all_goals skip
  all_goals refine retS rfl (congrArg AV.bool (Bool.eq_iff_iff.2 ?_))
  all_goals simp only [decide_eq_true_eq, beq_iff_eq, bne_iff_ne, ne_eq, true_iff, false_iff, Bool.false_eq_true]
  all_goals unfold formP
  all_goals (try unfold twoP3 at *)
  all_goals unfold lsP
  all_goals omega
theorem l3Form_call {c k' n : Nat} {x : Nd} {env : List AV} {rows : List Row} {ctr low : Nat} {k : AV → St → Prop} (hpre : k' ≤ 100 ∧ n ≤ 100) (h : k (.bool (decide (formP x k' n))) ⟨env, rows, ctr + 1, low⟩) :
    CallB Try.prog 151 ⟨env, rows, ctr, low⟩ [.agg [.int .i64 x.op, .int .i64 x.a, .int .i64 x.b, .sl c x.l.length (x.l.map (.int .i64))], .int .i64 k', .int .i64 n] k := callS_in l3Form_sound (c, x, k', n) hpre rfl h
end Go.Proofs.Ytjmdhfjemaoebaa

/- Chapter 2: BesideOf of the model. -/
namespace Go.Proofs.Ytjmdhfjemaoebaa
set_option maxRecDepth 20000
open Go.RowKit Go.Am
attribute [local irreducible] aPlan aGet aIf aLoop aCall RetB NextB CallB CallG aCut aSet aAppend

def bshP (xs ps : List Int) (i : Int) : Prop := xs.length = ps.length ∧ (0 ≤ i ∧ i < xs.length) ∧ wo xs i.toNat = wo ps i.toNat ∧ xs.getD i.toNat 0 + ps.getD i.toNat 0 ≤ 4
instance (xs ps : List Int) (i : Int) : Decidable (bshP xs ps i) := by unfold bshP; infer_instance
def bshL (xs ps : List Int) (i : Int) : List Int := if bshP xs ps i then bsSh xs i.toNat (ps.getD i.toNat 0) else []
theorem bshL_t {xs ps : List Int} {a : Nat} (h : bshP xs ps a) : bshL xs ps a = bsSh xs a (ps.getD a 0) := by unfold bshL; rw [if_pos h, Int.toNat_natCast]
theorem bshL_f {xs ps : List Int} {i : Int} (h : ¬ bshP xs ps i) : bshL xs ps i = [] := if_neg h
def sBShape : CSpec := fnLB (ι := Nat × List Int × Nat × List Int × Int) 3 (fun | (c, xs, d, ps, i) => [.sl c xs.length (xs.map (.int .i64)), .sl d ps.length (ps.map (.int .i64)), .int .i64 i]) (fun | (_, xs, _, ps, _) => shapeOk xs = true ∧ shapeOk ps = true) (fun | (_, xs, _, ps, i) => bshL xs ps i) (fun | (_, xs, _, ps, i) => decide (bshP xs ps i))
theorem retLBM {env : List AV} {rows : List Row} {ctr τ ver n : Nat} {t : TypeId} {zs L : List Int} {b B : Bool} (h1 : L = zs) (h2 : B = b) (hr : rows[τ]? = some ⟨ver, t, 1, zs.map (.int .i64)⟩) (hn : n = zs.length) :
    RetB ⟨env, rows, ctr, 0⟩ [] (fun r ic news => r = .tup [.ref 0 0 0 L.length, .bool B] ∧ ic = [] ∧ news = [⟨0, t, 1, L.map (.int .i64)⟩]) (.tup [.ref τ ver 0 n, .bool b]) := by
  subst h1; subst h2; exact retLB hr rfl rfl hn rfl
set_option maxHeartbeats 4000000 in
theorem l2BesideShape_sound : Sound Try.prog 162 sBShape := by
  refine sound_of Try.func162 rfl (enters_of Try.func162 (by kernel_rfl) (by kernel_rfl)) ?_
  rintro ⟨c, xs, d, ps, i⟩ hpre
  have hpre : shapeOk xs = true ∧ shapeOk ps = true := hpre
  obtain ⟨hx, hp⟩ := hpre
  have h3 := ((shapeOk_iff _).1 hx).1
  have h3' := ((shapeOk_iff _).1 hp).1
  have hmax : maxLen = 9223372036854775807 := rfl
  have hw1 : IntKind.i64.wrap ((xs.length : Int) - 1) = xs.length - 1 := IntWalk.i64_in _ (by omega)
  by_cases hl : xs.length = ps.length
  · by_cases hi : 0 ≤ i ∧ i < xs.length
    · obtain ⟨a, rfl⟩ : ∃ a : Nat, i = a := ⟨i.toNat, by omega⟩
      have hs1 := size_in hx (show a < xs.length by omega)
      have hs2 := size_in hp (show a < ps.length by omega)
      have hw : IntKind.i64.wrap (xs.getD a 0 + ps.getD a 0) = xs.getD a 0 + ps.getD a 0 := IntWalk.i64_in _ (by omega)
      by_cases he : wo xs a = wo ps a
      · by_cases hle : xs.getD a 0 + ps.getD a 0 ≤ 4
        · have hP : bshP xs ps (a : Int) := ⟨hl, hi, by rw [Int.toNat_natCast]; exact he, by rw [Int.toNat_natCast]; exact hle⟩
          conv => whnf
          repeat' (first
            | (refine plan_in (id := 1) [0, 1, 2, 3, 4, 5, 6, 7, 8, 9, 10, 11, 12, 13, 14, 15, 17, 18, 16, 19, 20, 21, 22, 23, 24, 25, 26, 27, 28, 29, 30, 31, 32, 33, 34] (by kernel_rfl) (by kernel_rfl) ?_; conv => whnf)
            | (refine plan_in (id := 4) [0, 1, 2, 3, 4, 5, 6, 7, 8, 9, 10, 11, 12] (by kernel_rfl) (by kernel_rfl) ?_; conv => whnf)
            | (refine aIf_t ?_; conv => whnf)
            | (refine aIf_f ?_; conv => whnf)
            | (refine fun (_ : _ ≤ maxLen) => ?_; conv => whnf)
            | (refine get_nat (by omega) ?_; conv => whnf)
            | (refine And.intro (by omega) ?_; conv => whnf)
            | (refine callG_t ?_; conv => whnf)
            | (refine l2Without_call (by omega) ?_; conv => whnf)
            | (refine l2Nums_call (by omega) ?_; conv => whnf)
            | (refine append_same ?_; conv => whnf)
            | (refine And.intro (pureL_ints _ _) ?_; conv => whnf)
            | (refine cut_ints ?_; conv => whnf)
            | (refine in_call ?_; conv => whnf)
            | (refine l1Same_call ?_; conv => whnf)
            | (refine And.intro rfl (And.intro rfl (And.intro (by first | omega | (rw [List.length_map]; omega)) ?_)); conv => whnf)
            | (refine set_nat ?_ (by omega); conv => whnf)
            | refine aIf_eqf ?_
            | refine aIf_not ?_
            | (refine aIf_dec (fun _ => ?_) (fun _ => ?_) <;> conv => whnf))
          all_goals (first | (exfalso; omega) | (exfalso; exact absurd he (by assumption)) | skip)
          have hL : bshL xs ps (a : Int) = xs.set a (IntKind.i64.wrap (xs.getD a 0 + ps.getD a 0)) := by rw [bshL_t hP, hw]; rfl
          exact retLBM hL (decide_eq_true hP) rfl (by simp)
        · have hP : ¬ bshP xs ps (a : Int) := fun h => hle (by have := h.2.2.2; rwa [Int.toNat_natCast] at this)
          conv => whnf
          repeat' (first
            | (refine plan_in (id := 1) [0, 1, 2, 3, 4, 5, 6, 7, 8, 9, 10, 11, 12, 13, 14, 15, 17, 18, 16, 19, 20, 21, 22, 23, 24, 25, 26, 27, 28, 29, 30, 31, 32, 33, 34] (by kernel_rfl) (by kernel_rfl) ?_; conv => whnf)
            | (refine plan_in (id := 4) [0, 1, 2, 3, 4, 5, 6, 7, 8, 9, 10, 11, 12] (by kernel_rfl) (by kernel_rfl) ?_; conv => whnf)
            | (refine aIf_t ?_; conv => whnf)
            | (refine aIf_f ?_; conv => whnf)
            | (refine fun (_ : _ ≤ maxLen) => ?_; conv => whnf)
            | (refine get_nat (by omega) ?_; conv => whnf)
            | (refine And.intro (by omega) ?_; conv => whnf)
            | (refine callG_t ?_; conv => whnf)
            | (refine l2Without_call (by omega) ?_; conv => whnf)
            | (refine l2Nums_call (by omega) ?_; conv => whnf)
            | (refine append_same ?_; conv => whnf)
            | (refine And.intro (pureL_ints _ _) ?_; conv => whnf)
            | (refine cut_ints ?_; conv => whnf)
            | (refine in_call ?_; conv => whnf)
            | (refine l1Same_call ?_; conv => whnf)
            | (refine set_nat ?_ (by omega); conv => whnf)
            | refine aIf_eqf ?_
            | refine aIf_not ?_
            | (refine aIf_dec (fun _ => ?_) (fun _ => ?_) <;> conv => whnf))
          all_goals (first | (exfalso; omega) | (exfalso; exact absurd he (by assumption)) | skip)
          exact retLBM (bshL_f hP) (decide_eq_false hP) rfl rfl
      · have hP : ¬ bshP xs ps (a : Int) := fun h => he (by have := h.2.2.1; rwa [Int.toNat_natCast] at this)
        conv => whnf
        repeat' (first
          | (refine plan_in (id := 1) [0, 1, 2, 3, 4, 5, 6, 7, 8, 9, 10, 11, 12, 13, 14, 15, 17, 18, 16, 19, 20, 21, 22, 23, 24, 25, 26, 27, 28, 29, 30, 31, 32, 33, 34] (by kernel_rfl) (by kernel_rfl) ?_; conv => whnf)
          | (refine plan_in (id := 4) [0, 1, 2, 3, 4, 5, 6, 7, 8, 9, 10, 11, 12] (by kernel_rfl) (by kernel_rfl) ?_; conv => whnf)
          | (refine aIf_t ?_; conv => whnf)
          | (refine aIf_f ?_; conv => whnf)
          | (refine fun (_ : _ ≤ maxLen) => ?_; conv => whnf)
          | (refine get_nat (by omega) ?_; conv => whnf)
          | (refine And.intro (by omega) ?_; conv => whnf)
          | (refine callG_t ?_; conv => whnf)
          | (refine l2Without_call (by omega) ?_; conv => whnf)
          | (refine l2Nums_call (by omega) ?_; conv => whnf)
          | (refine append_same ?_; conv => whnf)
          | (refine And.intro (pureL_ints _ _) ?_; conv => whnf)
          | (refine cut_ints ?_; conv => whnf)
          | (refine in_call ?_; conv => whnf)
          | (refine l1Same_call ?_; conv => whnf)
          | (refine And.intro rfl (And.intro rfl (And.intro (by first | omega | (rw [List.length_map]; omega)) ?_)); conv => whnf)
          | (refine set_nat ?_ (by omega); conv => whnf)
          | refine aIf_eqf ?_
          | refine aIf_not ?_
          | (refine aIf_dec (fun _ => ?_) (fun _ => ?_) <;> conv => whnf))
        all_goals (first | (exfalso; omega) | (exfalso; exact absurd (by assumption) he) | skip)
        exact retLBM (bshL_f hP) (decide_eq_false hP) rfl rfl
    · have hP : ¬ bshP xs ps i := fun h => hi h.2.1
      conv => whnf
      repeat' (first
        | (refine plan_in (id := 1) [0, 1, 2, 3, 4, 5, 6, 7, 8, 9, 10, 11, 12, 13, 14, 15, 17, 18, 16, 19, 20, 21, 22, 23, 24, 25, 26, 27, 28, 29, 30, 31, 32, 33, 34] (by kernel_rfl) (by kernel_rfl) ?_; conv => whnf)
        | (refine plan_in (id := 4) [0, 1, 2, 3, 4, 5, 6, 7, 8, 9, 10, 11, 12] (by kernel_rfl) (by kernel_rfl) ?_; conv => whnf)
        | (refine aIf_t ?_; conv => whnf)
        | (refine aIf_f ?_; conv => whnf)
        | (refine fun (_ : _ ≤ maxLen) => ?_; conv => whnf)
        | (refine And.intro (by omega) ?_; conv => whnf)
        | (refine append_same ?_; conv => whnf)
        | (refine in_call ?_; conv => whnf)
        | refine aIf_eqf ?_
        | refine aIf_not ?_
        | (refine aIf_dec (fun _ => ?_) (fun _ => ?_) <;> conv => whnf))
      all_goals (first | (exfalso; omega) | skip)
      exact retLBM (bshL_f hP) (decide_eq_false hP) rfl rfl
  · have hP : ¬ bshP xs ps i := fun h => hl h.1
    conv => whnf
    repeat' (first
      | (refine plan_in (id := 1) [0, 1, 2, 3, 4, 5, 6, 7, 8, 9, 10, 11, 12, 13, 14, 15, 17, 18, 16, 19, 20, 21, 22, 23, 24, 25, 26, 27, 28, 29, 30, 31, 32, 33, 34] (by kernel_rfl) (by kernel_rfl) ?_; conv => whnf)
      | (refine plan_in (id := 4) [0, 1, 2, 3, 4, 5, 6, 7, 8, 9, 10, 11, 12] (by kernel_rfl) (by kernel_rfl) ?_; conv => whnf)
      | (refine aIf_t ?_; conv => whnf)
      | (refine aIf_f ?_; conv => whnf)
      | (refine fun (_ : _ ≤ maxLen) => ?_; conv => whnf)
      | (refine And.intro (by omega) ?_; conv => whnf)
      | (refine append_same ?_; conv => whnf)
      | (refine in_call ?_; conv => whnf)
      | refine aIf_eqf ?_
      | refine aIf_not ?_
      | (refine aIf_dec (fun _ => ?_) (fun _ => ?_) <;> conv => whnf))
    all_goals (first | (exfalso; omega) | skip)
    exact retLBM (bshL_f hP) (decide_eq_false hP) rfl rfl
theorem l2BesideShape_call {c d : Nat} {xs ps : List Int} {i : Int} {env : List AV} {rows : List Row} {ctr low : Nat} {k : AV → St → Prop} (hpre : shapeOk xs = true ∧ shapeOk ps = true) (h : k (.tup [.ref rows.length ctr 0 (bshL xs ps i).length, .bool (decide (bshP xs ps i))]) ⟨env, rows ++ [⟨ctr, 3, 1, (bshL xs ps i).map (.int .i64)⟩], ctr + 1, low⟩) :
    CallB Try.prog 162 ⟨env, rows, ctr, low⟩ [.sl c xs.length (xs.map (.int .i64)), .sl d ps.length (ps.map (.int .i64)), .int .i64 i] k := callLB_in l2BesideShape_sound (c, xs, d, ps, i) hpre h
theorem bsRef_t {xs zs ps qs : List Int} {a k : Nat} (h : bsP xs zs ps qs a) (hk : (k : Int) < cntTo (bsSh xs a (ps.getD a 0)) (bsSh xs a (ps.getD a 0)).length) (hlt : (places (bsSh xs a (ps.getD a 0)) k).getD a 0 < xs.getD a 0) :
    (0 ≤ idxTo xs (places (bsSh xs a (ps.getD a 0)) k) xs.length ∧ idxTo xs (places (bsSh xs a (ps.getD a 0)) k) xs.length < zs.length) ∧ bsPick zs qs (bsRef xs a (ps.getD a 0) k) = zs.getD (idxTo xs (places (bsSh xs a (ps.getD a 0)) k) xs.length).toNat 0 := by
  obtain ⟨ht, hu, hi, he, hle⟩ := h
  rw [Int.toNat_natCast] at he hle
  obtain ⟨F, e1, e2, -, -⟩ := bs_all ht hu (by omega) he
  obtain ⟨g1, g2, g3⟩ := F.good hle
  have h3 := g3 k hk
  have t2 := ((tensorOk_iff _ _).1 ht).2.1
  have e : bsRef xs a (ps.getD a 0) k = (true, idxTo xs (places (bsSh xs a (ps.getD a 0)) k) xs.length) := if_pos hlt
  rw [e] at h3 ⊢
  unfold bsIn at h3
  rw [Bool.and_eq_true, decide_eq_true_iff, if_pos rfl, decide_eq_true_iff] at h3
  exact ⟨⟨h3.1, by rw [t2]; exact h3.2⟩, rfl⟩
theorem bsRef_f {xs zs ps qs : List Int} {a k : Nat} (h : bsP xs zs ps qs a) (hk : (k : Int) < cntTo (bsSh xs a (ps.getD a 0)) (bsSh xs a (ps.getD a 0)).length) (hlt : ¬ (places (bsSh xs a (ps.getD a 0)) k).getD a 0 < xs.getD a 0) :
    (0 ≤ idxTo ps ((places (bsSh xs a (ps.getD a 0)) k).set a ((places (bsSh xs a (ps.getD a 0)) k).getD a 0 - xs.getD a 0)) ps.length ∧ idxTo ps ((places (bsSh xs a (ps.getD a 0)) k).set a ((places (bsSh xs a (ps.getD a 0)) k).getD a 0 - xs.getD a 0)) ps.length < qs.length) ∧
      bsPick zs qs (bsRef xs a (ps.getD a 0) k) = qs.getD (idxTo ps ((places (bsSh xs a (ps.getD a 0)) k).set a ((places (bsSh xs a (ps.getD a 0)) k).getD a 0 - xs.getD a 0)) ps.length).toNat 0 := by
  obtain ⟨ht, hu, hi, he, hle⟩ := h
  rw [Int.toNat_natCast] at he hle
  obtain ⟨F, e1, e2, -, -⟩ := bs_all ht hu (by omega) he
  obtain ⟨g1, g2, g3⟩ := F.good hle
  have h3 := g3 k hk
  have u2 := ((tensorOk_iff _ _).1 hu).2.1
  have hl : ps.length = xs.length := by rw [he]; simp
  have e : bsRef xs a (ps.getD a 0) k = (false, idxTo ps ((places (bsSh xs a (ps.getD a 0)) k).set a ((places (bsSh xs a (ps.getD a 0)) k).getD a 0 - xs.getD a 0)) ps.length) := by
    unfold bsRef
    rw [if_neg hlt, ← he, hl]
  rw [e] at h3 ⊢
  unfold bsIn at h3
  rw [Bool.and_eq_true, decide_eq_true_iff, if_neg Bool.false_ne_true, decide_eq_true_iff, ← he] at h3
  exact ⟨⟨h3.1, by rw [u2]; exact h3.2⟩, rfl⟩
def bsTo (xs zs qs : List Int) (a : Nat) (p : Int) (k : Nat) : List Int := (List.range k).map fun i => bsPick zs qs (bsRef xs a p i)
theorem bsTo_succ (xs zs qs : List Int) (a : Nat) (p : Int) (k : Nat) : bsTo xs zs qs a p (k + 1) = bsTo xs zs qs a p k ++ [bsPick zs qs (bsRef xs a p k)] := by unfold bsTo; rw [List.range_succ, List.map_append]; rfl
theorem bsTo_length (xs zs qs : List Int) (a : Nat) (p : Int) (k : Nat) : (bsTo xs zs qs a p k).length = k := by simp [bsTo]
end Go.Proofs.Ytjmdhfjemaoebaa

/- Chapter 3: the shape of a node: the model's. -/
namespace Go.Proofs.Ytjmdhfjemaoebaa
set_option maxRecDepth 20000
open Go.RowKit Go.Am
set_option linter.unusedSimpArgs false
attribute [local irreducible] aPlan aGet aIf aLoop aCall RetB NextB CallB CallG aCut aSet aAppend

def cshP (a l : List Int) : Prop := (0 ≤ l.getD (Int.toNat 0) 0 ∧ l.getD (Int.toNat 0) 0 < a.length) ∧ (1 ≤ l.getD (Int.toNat 2) 0 ∧ l.getD (Int.toNat 2) 0 ≤ 4) ∧ 0 ≤ l.getD (Int.toNat 1) 0 ∧ l.getD (Int.toNat 1) 0 ≤ a.getD (l.getD (Int.toNat 0) 0).toNat 0 - l.getD (Int.toNat 2) 0
instance (a l : List Int) : Decidable (cshP a l) := by unfold cshP; infer_instance
def cshL (a l : List Int) : List Int := if cshP a l then a.set (l.getD (Int.toNat 0) 0).toNat (l.getD (Int.toNat 2) 0) else []
set_option maxHeartbeats 4000000 in
theorem l3CutShape_sound : Sound Try.prog 161 (fnLB (ι := Nat × List Int × Nat × List Int) 3 (fun | (c, a, d, l) => [.sl c a.length (a.map (.int .i64)), .sl d l.length (l.map (.int .i64))]) (fun | (_, a, _, l) => shapeOk a = true ∧ l.length = 3) (fun | (_, a, _, l) => cshL a l) (fun | (_, a, _, l) => decide (cshP a l))) := by
  refine sound_of Try.func161 rfl (enters_of Try.func161 (by kernel_rfl) (by kernel_rfl)) ?_
  rintro ⟨c, a, d, l⟩ hpre
  have hpre : shapeOk a = true ∧ l.length = 3 := hpre
  obtain ⟨hs, hl⟩ := hpre
  have h3 := ((shapeOk_iff _).1 hs).1
  have hmax : maxLen = 9223372036854775807 := rfl
  have w1 : IntKind.i64.wrap ((a.length : Int) - 1) = a.length - 1 := IntWalk.i64_in _ (by omega)
  have t0 : Int.toNat 0 = 0 := rfl
  have t1 : Int.toNat 1 = 1 := rfl
  have t2 : Int.toNat 2 = 2 := rfl
  by_cases h0 : 0 ≤ l.getD (Int.toNat 0) 0 ∧ l.getD (Int.toNat 0) 0 < a.length
  · have hsz := size_in hs (show (l.getD (Int.toNat 0) 0).toNat < a.length by omega)
    by_cases h2 : 1 ≤ l.getD (Int.toNat 2) 0 ∧ l.getD (Int.toNat 2) 0 ≤ 4
    · have w2 : IntKind.i64.wrap (a.getD (l.getD (Int.toNat 0) 0).toNat 0 - l.getD (Int.toNat 2) 0) = a.getD (l.getD (Int.toNat 0) 0).toNat 0 - l.getD (Int.toNat 2) 0 := IntWalk.i64_in _ (by omega)
      by_cases hP : cshP a l
      · have h := hP.2.2
        have hL : cshL a l = a.set (l.getD (Int.toNat 0) 0).toNat (l.getD (Int.toNat 2) 0) := if_pos hP
        conv => whnf
        repeat' (first
          | (refine plan_in (id := 1) [0, 1, 2, 3, 4, 5, 6, 7, 8, 9, 10, 11, 12, 13, 14, 15, 16, 17, 18, 19, 20, 21, 22, 23, 24, 25, 26, 27, 28, 29, 30, 31] (by kernel_rfl) (by kernel_rfl) ?_; conv => whnf)
          | (refine plan_in (id := 4) [0, 1, 2, 3, 4, 5, 6, 7, 8] (by kernel_rfl) (by kernel_rfl) ?_; conv => whnf)
          | (refine aIf_t ?_; conv => whnf)
          | (refine aIf_f ?_; conv => whnf)
          | (refine fun (_ : _ ≤ maxLen) => ?_; conv => whnf)
          | (refine get_int (by omega) ?_; conv => whnf)
          | (refine And.intro (by omega) ?_; conv => whnf)
          | (refine callG_t ?_; conv => whnf)
          | (refine l2Nums_call (by omega) ?_; conv => whnf)
          | (refine append_same ?_; conv => whnf)
          | (refine And.intro (pureL_ints _ _) ?_; conv => whnf)
          | (refine in_call ?_; conv => whnf)
          | (refine And.intro rfl (And.intro rfl (And.intro (by first | omega | (rw [List.length_map]; omega)) ?_)); conv => whnf)
          | (refine set_int ?_ (by omega); conv => whnf)
          | refine aIf_eqf ?_
          | refine aIf_not ?_
          | (refine aIf_dec (fun _ => ?_) (fun _ => ?_) <;> conv => whnf))
        all_goals (first | (exfalso; omega) | skip)
        exact retLBM hL (decide_eq_true hP) rfl (by simp)
      · have h : ¬ (0 ≤ l.getD (Int.toNat 1) 0 ∧ l.getD (Int.toNat 1) 0 ≤ a.getD (l.getD (Int.toNat 0) 0).toNat 0 - l.getD (Int.toNat 2) 0) := fun h => hP ⟨h0, h2, h⟩
        conv => whnf
        repeat' (first
          | (refine plan_in (id := 1) [0, 1, 2, 3, 4, 5, 6, 7, 8, 9, 10, 11, 12, 13, 14, 15, 16, 17, 18, 19, 20, 21, 22, 23, 24, 25, 26, 27, 28, 29, 30, 31] (by kernel_rfl) (by kernel_rfl) ?_; conv => whnf)
          | (refine plan_in (id := 4) [0, 1, 2, 3, 4, 5, 6, 7, 8] (by kernel_rfl) (by kernel_rfl) ?_; conv => whnf)
          | (refine aIf_t ?_; conv => whnf)
          | (refine aIf_f ?_; conv => whnf)
          | (refine fun (_ : _ ≤ maxLen) => ?_; conv => whnf)
          | (refine get_nat (by omega) ?_; conv => whnf)
          | (refine get_int (by omega) ?_; conv => whnf)
          | (refine And.intro (by omega) ?_; conv => whnf)
          | (refine callG_t ?_; conv => whnf)
          | (refine l2Nums_call (by omega) ?_; conv => whnf)
          | (refine append_same ?_; conv => whnf)
          | (refine in_call ?_; conv => whnf)
          | (refine set_nat ?_ (by omega); conv => whnf)
          | refine aIf_eqf ?_
          | refine aIf_not ?_
          | (refine aIf_dec (fun _ => ?_) (fun _ => ?_) <;> conv => whnf))
        all_goals (first | (exfalso; omega) | skip)
        exact retLBM (if_neg hP) (decide_eq_false hP) rfl rfl
    · have hP : ¬ cshP a l := fun h => h2 h.2.1
      conv => whnf
      repeat' (first
        | (refine plan_in (id := 1) [0, 1, 2, 3, 4, 5, 6, 7, 8, 9, 10, 11, 12, 13, 14, 15, 16, 17, 18, 19, 20, 21, 22, 23, 24, 25, 26, 27, 28, 29, 30, 31] (by kernel_rfl) (by kernel_rfl) ?_; conv => whnf)
        | (refine plan_in (id := 4) [0, 1, 2, 3, 4, 5, 6, 7, 8] (by kernel_rfl) (by kernel_rfl) ?_; conv => whnf)
        | (refine aIf_t ?_; conv => whnf)
        | (refine aIf_f ?_; conv => whnf)
        | (refine fun (_ : _ ≤ maxLen) => ?_; conv => whnf)
        | (refine get_nat (by omega) ?_; conv => whnf)
        | (refine get_int (by omega) ?_; conv => whnf)
        | (refine And.intro (by omega) ?_; conv => whnf)
        | (refine callG_t ?_; conv => whnf)
        | (refine l2Nums_call (by omega) ?_; conv => whnf)
        | (refine append_same ?_; conv => whnf)
        | (refine in_call ?_; conv => whnf)
        | (refine set_nat ?_ (by omega); conv => whnf)
        | refine aIf_eqf ?_
        | refine aIf_not ?_
        | (refine aIf_dec (fun _ => ?_) (fun _ => ?_) <;> conv => whnf))
      all_goals (first | (exfalso; omega) | skip)
      exact retLBM (if_neg hP) (decide_eq_false hP) rfl rfl
  · have hP : ¬ cshP a l := fun h => h0 h.1
    conv => whnf
    repeat' (first
      | (refine plan_in (id := 1) [0, 1, 2, 3, 4, 5, 6, 7, 8, 9, 10, 11, 12, 13, 14, 15, 16, 17, 18, 19, 20, 21, 22, 23, 24, 25, 26, 27, 28, 29, 30, 31] (by kernel_rfl) (by kernel_rfl) ?_; conv => whnf)
      | (refine plan_in (id := 4) [0, 1, 2, 3, 4, 5, 6, 7, 8] (by kernel_rfl) (by kernel_rfl) ?_; conv => whnf)
      | (refine aIf_t ?_; conv => whnf)
      | (refine aIf_f ?_; conv => whnf)
      | (refine fun (_ : _ ≤ maxLen) => ?_; conv => whnf)
      | (refine get_nat (by omega) ?_; conv => whnf)
      | (refine get_int (by omega) ?_; conv => whnf)
      | (refine And.intro (by omega) ?_; conv => whnf)
      | (refine callG_t ?_; conv => whnf)
      | (refine l2Nums_call (by omega) ?_; conv => whnf)
      | (refine append_same ?_; conv => whnf)
      | (refine in_call ?_; conv => whnf)
      | (refine set_nat ?_ (by omega); conv => whnf)
      | refine aIf_eqf ?_
      | refine aIf_not ?_
      | (refine aIf_dec (fun _ => ?_) (fun _ => ?_) <;> conv => whnf))
    all_goals (first | (exfalso; omega) | skip)
    exact retLBM (if_neg hP) (decide_eq_false hP) rfl rfl
theorem l3CutShape_call {c d : Nat} {a l : List Int} {env : List AV} {rows : List Row} {ctr low : Nat} {k : AV → St → Prop} (hpre : shapeOk a = true ∧ l.length = 3) (h : k (.tup [.ref rows.length ctr 0 (cshL a l).length, .bool (decide (cshP a l))]) ⟨env, rows ++ [⟨ctr, 3, 1, (cshL a l).map (.int .i64)⟩], ctr + 1, low⟩) :
    CallB Try.prog 161 ⟨env, rows, ctr, low⟩ [.sl c a.length (a.map (.int .i64)), .sl d l.length (l.map (.int .i64))] k := callLB_in l3CutShape_sound (c, a, d, l) hpre h

abbrev shA (x : Nd) (ss : List (List Int)) : List Int := ss.getD x.a.toNat []
abbrev shB (x : Nd) (ss : List (List Int)) : List Int := ss.getD x.b.toNat []
def kOk (x : Nd) (ss : List (List Int)) : Prop :=
  x.op ≤ 1 ∨ x.op = 6 ∨ (2 ≤ x.op ∧ x.op ≤ 5 ∧ jOk (shA x ss) (shB x ss) = true) ∨ (x.op = 7 ∧ 0 ≤ x.l.getD (Int.toNat 0) 0 ∧ x.l.getD (Int.toNat 0) 0 < (shA x ss).length) ∨ (x.op = 8 ∧ tsOk (shA x ss) x.l = true) ∨
  (x.op = 9 ∧ countOf x.l = cntTo (shA x ss) (shA x ss).length) ∨ (x.op = 10 ∧ cshP (shA x ss) x.l) ∨ (x.op = 11 ∧ bshP (shA x ss) (shB x ss) (x.l.getD (Int.toNat 0) 0)) ∨ (x.op = 12 ∧ (shA x ss).length = 2 ∧ (shB x ss).length = 2 ∧ (shA x ss).getD (Int.toNat 1) 0 = (shB x ss).getD (Int.toNat 0) 0)
instance (x : Nd) (ss : List (List Int)) : Decidable (kOk x ss) := by unfold kOk; infer_instance
def kL (x : Nd) (ss ins : List (List Int)) : List Int :=
  if x.op = 0 then ins.getD x.a.toNat [] else if x.op = 1 then [] else if x.op = 6 then shA x ss else if x.op = 7 then wo (shA x ss) (x.l.getD (Int.toNat 0) 0).toNat else if x.op = 8 then tsL (shA x ss) x.l else if x.op = 9 then x.l
  else if x.op = 10 then cshL (shA x ss) x.l else if x.op = 11 then bshL (shA x ss) (shB x ss) (x.l.getD (Int.toNat 0) 0) else if x.op = 12 then [(shA x ss).getD (Int.toNat 0) 0, (shB x ss).getD (Int.toNat 1) 0] else jL (shA x ss) (shB x ss)
def spL (x : Nd) (ss ins : List (List Int)) : List Int := if (x.op = 7 ∨ x.op = 12) ∧ ¬ kOk x ss then [] else kL x ss ins
theorem spL_ok {x : Nd} {ss ins : List (List Int)} (h : kOk x ss) : spL x ss ins = kL x ss ins := if_neg fun h' => h'.2 h
theorem l2Without_calli {c : Nat} {xs : List Int} {i : Int} {env : List AV} {rows : List Row} {ctr low : Nat} {k : AV → St → Prop} (hpre : xs.length ≤ 1048576 ∧ 0 ≤ i ∧ i < xs.length) (h : k (.ref rows.length ctr 0 (wo xs i.toNat).length) ⟨env, rows ++ [⟨ctr, 3, 1, (wo xs i.toNat).map (.int .i64)⟩], ctr + 1, low⟩) :
    CallB Try.prog 158 ⟨env, rows, ctr, low⟩ [.sl c xs.length (xs.map (.int .i64)), .int .i64 i] k := by
  obtain ⟨a, rfl⟩ : ∃ a : Nat, i = a := ⟨i.toNat, by omega⟩
  exact l2Without_call (by omega) h
def allOk (ss : List (List Int)) : Prop := ∀ j, j < ss.length → shapeOk (ss.getD j []) = true
end Go.Proofs.Ytjmdhfjemaoebaa

/- Chapter 2: BesideOf of the model: the numbers. -/
namespace Go.Proofs.Ytjmdhfjemaoebaa
set_option maxRecDepth 20000
open Go.RowKit Go.Am
attribute [local irreducible] aPlan aGet aIf aLoop aCall RetB NextB CallB CallG aCut aSet aAppend

def sL2Beside : CSpec :=
  { ι := Nat × List Int × Nat × List Int × Nat × List Int × Nat × List Int × Nat, inout := [false, false, false, true],
    args := fun | (c, xs, d, zs, e, ps, f, qs, a) => [.agg [.sl c xs.length (xs.map (.int .i64)), .sl d zs.length (zs.map (.int .i64))], .agg [.sl e ps.length (ps.map (.int .i64)), .sl f qs.length (qs.map (.int .i64))], .int .i64 a, .ref 0 0 0 (bsSh xs a (ps.getD a 0)).length],
    ins := fun | (_, xs, _, _, _, ps, _, _, a) => [⟨0, 3, 1, (bsSh xs a (ps.getD a 0)).map (.int .i64)⟩],
    pre := fun | (_, xs, _, zs, _, ps, _, qs, a) => bsP xs zs ps qs a,
    post := fun | (_, xs, _, zs, _, ps, _, qs, a), r, ic, news => r = .agg [.ref 0 0 0 (bsSh xs a (ps.getD a 0)).length, .ref 1 0 0 (bsL xs zs qs a (ps.getD a 0)).length] ∧ ic = [(bsSh xs a (ps.getD a 0)).map (.int .i64)] ∧ news = [rowL 3 (bsL xs zs qs a (ps.getD a 0))] }
theorem retB1 {env : List AV} {ctr : Nat} {t : TypeId} {sh ws L : List Int} {v0 n n' m τ v : Nat} {rest : List Row} (h3 : rest[τ]? = some ⟨v, t, 1, ws.map (.int .i64)⟩) (hL : L = ws) (hn : n = n') (hm : m = ws.length) :
    RetB ⟨env, ⟨v0, t, 1, sh.map (.int .i64)⟩ :: rest, ctr, 1⟩ [⟨0, t, 1, sh.map (.int .i64)⟩] (fun r ic news => r = .agg [.ref 0 0 0 n', .ref 1 0 0 L.length] ∧ ic = [sh.map (.int .i64)] ∧ news = [rowL t L]) (.agg [.ref 0 v0 0 n, .ref (τ + 1) v 0 m]) := by
  subst hL; subst hn; subst hm
  refine RetB1.ret ⟨[τ + 1], [⟨0, t, 1, sh.map (.int .i64)⟩, rowL t L], _, [sh.map (.int .i64)], [rowL t L], (show ([0, τ + 1] : List Nat).Nodup by simp), ?_, ?_, rfl, rfl, rfl, rfl, rfl⟩
  · show insOf _ [0, τ + 1] [0, τ + 1] = _
    simp [insOf, h3, protL_ren (protL_ints .i64 sh), protL_ren (protL_ints .i64 L)]
  · show AV.ren _ [0, τ + 1] _ = _
    simp [AV.ren, renL, h3, List.idxOf, List.findIdx_cons]
end Go.Proofs.Ytjmdhfjemaoebaa

/- Chapter 2: BesideOf of the model, the whole. -/
namespace Go.Proofs.Ytjmdhfjemaoebaa
set_option maxRecDepth 20000
open Go.RowKit Go.Am
attribute [local irreducible] aPlan aGet aIf aLoop aCall RetB NextB CallB CallG aCut aSet aAppend

theorem wo_eq {xs ps : List Int} {a : Nat} (hl : xs.length = ps.length) (ha : a < xs.length) : wo xs a = wo ps a ↔ ps = xs.set a (ps.getD a 0) := by
  have e1 : ps = ps.take a ++ ([ps.getD a 0] ++ ps.drop (a + 1)) := by
    conv => lhs; rw [← List.take_append_drop a ps]
    congr 1
    rw [List.drop_eq_getElem_cons (by omega)]; simp [List.getD, List.getElem?_eq_getElem (show a < ps.length by omega)]
  have e2 : xs.set a (ps.getD a 0) = xs.take a ++ ([ps.getD a 0] ++ xs.drop (a + 1)) := by
    rw [List.set_eq_take_append_cons_drop, if_pos ha]; rfl
  constructor
  · intro h
    unfold wo at h
    have hlen : (xs.take a).length = (ps.take a).length := by simp; omega
    obtain ⟨h1, h2⟩ := List.append_inj h hlen
    rw [e2, h1, h2]; exact e1
  · intro h
    rw [e2] at h
    have h := e1.symm.trans h
    have hlen : (ps.take a).length = (xs.take a).length := by simp; omega
    obtain ⟨h1, h2⟩ := List.append_inj h hlen
    have h3 : ps.drop (a + 1) = xs.drop (a + 1) := by simpa using h2
    unfold wo
    rw [h1, h3]
end Go.Proofs.Ytjmdhfjemaoebaa

/- Chapter 3: what comes of noughts is noughts; its shape is that of the node. -/
namespace Go.Proofs.Ytjmdhfjemaoebaa
set_option maxRecDepth 20000
open Go.RowKit Go.Am
set_option linter.unusedSimpArgs false

def allZ (zs : List Int) : Prop := ∀ j, zs.getD j 0 = 0
theorem allZ_rep (n : Nat) : allZ (List.replicate n 0) := fun j => by
  simp only [List.getD, List.getElem?_replicate]; split <;> rfl
theorem allZ_map {n : Nat} {f : Nat → Int} (h : ∀ j, j < n → f j = 0) : allZ ((List.range n).map f) := fun j => by
  by_cases hj : j < n
  · rw [range_getD hj]; exact h j hj
  · simp [List.getD, List.getElem?_map, List.getElem?_eq_none (show (List.range n).length ≤ j by simp; omega)]
theorem wrap_0 : IntKind.i64.wrap 0 = 0 := rfl
theorem allZ_sm {xs zs : List Int} {a : Nat} (hz : allZ zs) : ∀ k, allZ (smTo xs zs a k)
  | 0 => allZ_rep _
  | k + 1 => fun j => by
    have ih := allZ_sm (xs := xs) (a := a) hz k
    rw [smTo]
    by_cases hl : (sumI xs a k).toNat < (smTo xs zs a k).length
    · rw [getD_set hl]
      split
      · rw [ih, hz]; rfl
      · exact ih j
    · rw [List.set_eq_of_length_le (by omega)]; exact ih j
theorem two_z (op : Int) : two op 0 0 = 0 := by
  unfold two
  split
  · rfl
  · split
    · rfl
    · split
      · rfl
      · split <;> rfl
theorem allZ_two {op : Int} {us vs : List Int} (hu : allZ us) (hv : allZ vs) : allZ (twoL op us vs) := allZ_map fun j _ => by rw [hu, hv, two_z]
theorem allZ_rd {nums shape steps : List Int} {start : Int} (h : allZ nums) : allZ (rdL nums shape steps start) := allZ_map fun _ _ => h _
theorem dot_z {zs qs : List Int} {m c i j : Nat} (hz : allZ zs) : ∀ k, dotT zs qs m c i j k = 0
  | 0 => rfl
  | k + 1 => by rw [dotT, dot_z hz k, hz, Int.zero_mul]; rfl
theorem allZ_pr {zs qs : List Int} {r m c : Nat} (hz : allZ zs) : allZ (prL zs qs r m c) := allZ_map fun _ _ => dot_z hz _
theorem tensor_z {xs zs : List Int} (hs : shapeOk xs = true) (hl : zs.length = (cntTo xs xs.length).toNat) (hz : allZ zs) : tensorOk xs zs = true :=
  tensorOk_t hs (by have := cnt64 hs (Nat.le_refl _); omega) fun j _ => by rw [hz j]; omega
theorem zsOf_z (xs : List Int) : allZ (zsOf xs) := allZ_rep _
theorem zsOf_len {xs : List Int} (hs : shapeOk xs = true) : (zsOf xs).length = (cntTo xs xs.length).toNat := by
  have : countOf xs = cntTo xs xs.length := if_pos hs
  simp [zsOf, this]
theorem zsOf_ok {xs : List Int} (hs : shapeOk xs = true) : tensorOk xs (zsOf xs) = true := tensor_z hs (zsOf_len hs) (zsOf_z xs)
/-- What is asked of what comes of noughts. -/
structure ComZ (M : TM) (ok : Prop) (L : List Int) : Prop where
  b : ok → M.2.2 = true ∧ M.1 = L ∧ shapeOk L = true
  n : ¬ ok → M.2.2 = false ∧ M.1 = []
theorem comZ_t {M : TM} {ok : Prop} {L zs : List Int} (h : ok) (hM : M = (L, zs, true)) (hs : shapeOk L = true) : ComZ M ok L := ⟨fun _ => by rw [hM]; exact ⟨rfl, rfl, hs⟩, fun h' => absurd h h'⟩
theorem comZ_f {M : TM} {ok : Prop} {L : List Int} (h : ¬ ok) (hM : M = noT) : ComZ M ok L := ⟨fun h' => absurd h' h, fun _ => by rw [hM]; exact ⟨rfl, rfl⟩⟩
theorem neg_z {A : List Int} (hA : shapeOk A = true) : ComZ (negM A (zsOf A)) True A := comZ_t trivial (if_pos (zsOf_ok hA)) hA
theorem sum_z {A : List Int} {i : Int} (hA : shapeOk A = true) : ComZ (sumM A (zsOf A) i) (0 ≤ i ∧ i < A.length) (wo A i.toNat) := by
  by_cases h : 0 ≤ i ∧ i < A.length
  · obtain ⟨a, rfl⟩ : ∃ a : Nat, i = a := ⟨i.toNat, by omega⟩
    have F := sum_facts hA (show a < A.length by omega)
    refine comZ_t (zs := smTo A (zsOf A) a (zsOf A).length) h ?_ F.sh
    rw [sumM_t (zsOf_ok hA) (by omega), told_t (tensor_z F.sh (smTo_length _ _ _ _) (allZ_sm (zsOf_z A) _))]
    rw [Int.toNat_natCast]
  · exact comZ_f h (sumM_f2 h)
theorem turn_z {A l : List Int} (hA : shapeOk A = true) : ComZ (turnM A (zsOf A) l) (tsOk A l = true) (tsL A l) := by
  by_cases h : turnOk l A.length = true
  · have ht : tsOk A l = true := by unfold tsOk; rw [hA, h]; rfl
    have hL : tsL A l = turned A l := if_pos ht
    refine comZ_t ht ((if_pos ⟨zsOf_ok hA, h⟩).trans (by rw [hL])) ?_
    rw [hL]; exact (turn_facts hA h).sh
  · have ht : ¬ tsOk A l = true := fun ht => h (by unfold tsOk at ht; rw [Bool.and_eq_true] at ht; exact ht.2)
    exact comZ_f ht (if_neg fun h' => h h'.2)
theorem fold_z {A l : List Int} (hA : shapeOk A = true) : ComZ (foldM A (zsOf A) l) (countOf l = cntTo A A.length) l := by
  have hc := cnt64 hA (Nat.le_refl _)
  have hl := zsOf_len hA
  by_cases h : countOf l = cntTo A A.length
  · have hs : shapeOk l = true := by
      by_cases hs : shapeOk l = true
      · exact hs
      · have : countOf l = -1 := if_neg hs
        omega
    exact comZ_t h (if_pos ⟨zsOf_ok hA, by omega⟩) hs
  · exact comZ_f h (if_neg fun h' => h (by have := h'.2; omega))
theorem cut_z {A l : List Int} (hA : shapeOk A = true) : ComZ (cutM A (zsOf A) (l.getD (Int.toNat 0) 0) (l.getD (Int.toNat 1) 0) (l.getD (Int.toNat 2) 0)) (cshP A l) (cshL A l) := by
  by_cases h : cshP A l
  · obtain ⟨h0, h2, h1⟩ := h
    have hP : cutP A (zsOf A) (l.getD (Int.toNat 0) 0) (l.getD (Int.toNat 1) 0) (l.getD (Int.toNat 2) 0) := ⟨zsOf_ok hA, h0, h1.1, h2.1, by omega⟩
    have hL : cshL A l = cutSh A (l.getD (Int.toNat 0) 0).toNat (l.getD (Int.toNat 2) 0) := if_pos ⟨h0, h2, h1⟩
    rw [hL]
    refine comZ_t ⟨h0, h2, h1⟩ (if_pos hP) ?_
    exact (cut_facts hA (show (l.getD (Int.toNat 0) 0).toNat < A.length by omega) h1.1 h2.1 (by omega)).sh
  · refine comZ_f h (cutM_f fun h' => h ⟨h'.2.1, ?_, h'.2.2.1, by have := h'.2.2.2.2; omega⟩)
    have hz := size_in hA (show (l.getD (Int.toNat 0) 0).toNat < A.length by have := h'.2.1; omega)
    have := h'.2.2
    omega
theorem beside_z {A B : List Int} {i : Int} (hA : shapeOk A = true) (hB : shapeOk B = true) : ComZ (bsM A (zsOf A) B (zsOf B) i) (bshP A B i) (bshL A B i) := by
  by_cases h : bshP A B i
  · obtain ⟨a, rfl⟩ : ∃ a : Nat, i = a := ⟨i.toNat, by have := h.2.1; omega⟩
    have hP := h
    have h3 := h.2.2.1
    rw [Int.toNat_natCast] at h3
    have hQ : bsP A (zsOf A) B (zsOf B) (a : Int) := ⟨zsOf_ok hA, zsOf_ok hB, h.2.1, by rw [Int.toNat_natCast]; exact (wo_eq h.1 (by have := h.2.1; omega)).1 h3, h.2.2.2⟩
    have hT := bs_told hQ
    rw [bshL_t hP]
    exact comZ_t hP (bsM_t hQ) ((tensorOk_iff _ _).1 hT.1).1
  · refine comZ_f h (bsM_f fun h' => h ?_)
    have h4 := h'.2.2.2.1
    have hl : A.length = B.length := by have := congrArg List.length h4; rw [List.length_set] at this; omega
    exact ⟨hl, h'.2.2.1, (wo_eq hl (by have := h'.2.2.1; omega)).2 h4, h'.2.2.2.2⟩
theorem two_zz {op : Int} {A B : List Int} (hop : 0 ≤ op ∧ op ≤ 3) (hA : shapeOk A = true) (hB : shapeOk B = true) : ComZ (twoM op A (zsOf A) B (zsOf B)) (jOk A B = true) (jL A B) := by
  by_cases h : jOk A B = true
  · have hs := jL_ok h
    refine comZ_t (zs := twoL op (sprd A (zsOf A) (jL A B)) (sprd B (zsOf B) (jL A B))) h ?_ hs
    rw [twoM_t ⟨zsOf_ok hA, zsOf_ok hB, hop, h⟩]
    exact told_t (tensor_z hs (by rw [twoL_length, rdL_length]) (allZ_two (allZ_rd (zsOf_z A)) (allZ_rd (zsOf_z B))))
  · exact comZ_f h (twoM_f fun h' => h h'.2.2.2)
theorem prod_z {A B : List Int} (hA : shapeOk A = true) (hB : shapeOk B = true) : ComZ (prM A (zsOf A) B (zsOf B)) (A.length = 2 ∧ B.length = 2 ∧ A.getD 1 0 = B.getD 0 0) [A.getD 0 0, B.getD 1 0] := by
  by_cases h : A.length = 2 ∧ B.length = 2 ∧ A.getD 1 0 = B.getD 0 0
  · obtain ⟨h1, h2, h3⟩ := h
    have a0 := size_in hA (show 0 < A.length by omega)
    have b1 := size_in hB (show 1 < B.length by omega)
    have hs : shapeOk [A.getD 0 0, B.getD 1 0] = true := shapeOk_t (by simp) fun j hj => by
      have : j = 0 ∨ j = 1 := by simp at hj; omega
      rcases this with rfl | rfl
      · exact (okSize_iff _).2 a0
      · exact (okSize_iff _).2 b1
    refine comZ_t (zs := prL (zsOf A) (zsOf B) (A.getD 0 0).toNat (A.getD 1 0).toNat (B.getD 1 0).toNat) ⟨h1, h2, h3⟩ ?_ hs
    rw [prM_t ⟨zsOf_ok hA, zsOf_ok hB, h1, h2, h3⟩]
    refine told_t (tensor_z hs ?_ (allZ_pr (zsOf_z A)))
    rw [prL_length, cnt2 hs rfl]
    show _ = (A.getD 0 0 * B.getD 1 0).toNat
    rw [Int.toNat_mul (by omega) (by omega)]
  · exact comZ_f h (prM_f fun h' => h h'.2.2)
/-- What comes of noughts at a node. -/
theorem com_z {x : Nd} {ss ins : List (List Int)} {B : List Int} (h2 : 2 ≤ x.op ∧ x.op ≤ 12) (hA : shapeOk (shA x ss) = true) (hB : shapeOk B = true) (hBe : (x.op ≤ 5 ∨ 11 ≤ x.op) → B = shB x ss) :
    ComZ (comM x (shA x ss) (zsOf (shA x ss)) B (zsOf B)) (kOk x ss) (kL x ss ins) := by
  have hop : x.op = 6 ∨ x.op = 7 ∨ x.op = 8 ∨ x.op = 9 ∨ x.op = 10 ∨ x.op = 11 ∨ x.op = 12 ∨ (2 ≤ x.op ∧ x.op ≤ 5) := by omega
  have move : ∀ {M : TM} {p : Prop} {L : List Int}, ComZ M p L → comM x (shA x ss) (zsOf (shA x ss)) B (zsOf B) = M → (p ↔ kOk x ss) → kL x ss ins = L → ComZ (comM x (shA x ss) (zsOf (shA x ss)) B (zsOf B)) (kOk x ss) (kL x ss ins) := fun h e1 e2 e3 => by
    rw [e1, e3]; exact ⟨fun hk => h.b (e2.2 hk), fun hk => h.n fun hp => hk (e2.1 hp)⟩
  rcases hop with h | h | h | h | h | h | h | h
  · exact move (neg_z hA) (by simp [comM, h]) (by simp [kOk, h]) (by simp [kL, h])
  · exact move (sum_z (i := x.l.getD (Int.toNat 0) 0) hA) (by simp [comM, h]) (by simp [kOk, h]) (by simp [kL, h])
  · exact move (turn_z (l := x.l) hA) (by simp [comM, h]) (by simp [kOk, h]) (by simp [kL, h])
  · exact move (fold_z (l := x.l) hA) (by simp [comM, h]) (by simp [kOk, h]) (by simp [kL, h])
  · exact move (cut_z (l := x.l) hA) (by simp [comM, h]) (by simp [kOk, h]) (by simp [kL, h])
  · have e := hBe (.inr (by omega))
    subst e
    exact move (beside_z (i := x.l.getD (Int.toNat 0) 0) hA hB) (by simp [comM, h]) (by simp [kOk, h]) (by simp [kL, h])
  · have e := hBe (.inr (by omega))
    subst e
    exact move (prod_z hA hB) (by simp [comM, h]) (by simp [kOk, h]) (by simp [kL, h])
  · have e := hBe (.inl h.2)
    subst e
    have hw : IntKind.i64.wrap (IntKind.i64.wrap (x.op - 2) + 0) = x.op - 2 := by
      rw [IntWalk.i64_in (x.op - 2) (by omega), Int.add_zero, IntWalk.i64_in _ (by omega)]
    refine move (two_zz (op := x.op - 2) (by omega) hA hB) ?_ ?_ ?_
    · unfold comM
      rw [if_neg (by omega), if_neg (by omega), if_neg (by omega), if_neg (by omega), if_neg (by omega), if_neg (by omega), if_neg (by omega), hw]
    · constructor
      · intro hj; exact .inr (.inr (.inl ⟨h.1, h.2, hj⟩))
      · intro hk
        rcases hk with hk | hk | hk | hk | hk | hk | hk | hk | hk
        all_goals (first | omega | exact hk.2.2)
    · unfold kL
      rw [if_neg (by omega), if_neg (by omega), if_neg (by omega), if_neg (by omega), if_neg (by omega), if_neg (by omega), if_neg (by omega), if_neg (by omega), if_neg (by omega)]
end Go.Proofs.Ytjmdhfjemaoebaa

/- Structs as a law's arguments: their fields. -/
namespace Go.Am
open Go.RowKit
variable {P : Program}
def fieldsAre (P : Program) (t : TypeId) (l : List (TypeId × Nat)) : Bool :=
  match P.underlying t with
  | some (.struct fs) => fs.toList.map (fun f => (f.type, f.offset)) == l
  | _ => false
theorem fields_ok {t : TypeId} {l : List (TypeId × Nat)} {us : List AV} (hp : fieldsAre P t l = true) (h : CellsOk P t us) : us.length = P.cellsOf t ∧ ∀ p ∈ l, CellsOk P p.1 ((us.drop p.2).take (P.cellsOf p.1)) := by
  unfold fieldsAre at hp
  split at hp
  case h_2 => cases hp
  rename_i fs hu
  have hf : fs.toList.map (fun f => (f.type, f.offset)) = l := by simpa using hp
  cases h with
  | int _ k' n ht hn => rw [hu] at ht; cases ht
  | bool _ b ht => rw [hu] at ht; cases ht
  | str _ s ht hs => rw [hu] at ht; cases ht
  | sl _ e' es ht hz hes => rw [hu] at ht; cases ht
  | struct _ fs' us ht hl hf' =>
    rw [hu] at ht; cases ht
    refine ⟨hl, fun p hp => ?_⟩
    rw [← hf] at hp
    obtain ⟨f, hfm, rfl⟩ := List.mem_map.1 hp
    exact hf' f hfm
theorem cells_int {t : TypeId} {k : IntKind} {us : List AV} (hu : P.underlying t = some (.int k)) (h : CellsOk P t us) : ∃ n : Int, us = [.int k n] ∧ (Lit.int k n).wf = true := by
  cases h with
  | int _ k' n ht hn => rw [hu] at ht; cases ht; exact ⟨n, rfl, hn⟩
  | bool _ b ht => rw [hu] at ht; cases ht
  | str _ s ht hs => rw [hu] at ht; cases ht
  | sl _ e' es ht hz hes => rw [hu] at ht; cases ht
  | struct _ fs us ht hl hf => rw [hu] at ht; cases ht
theorem flat_all {α : Type} {f : α → List AV} {q : α → Prop} : ∀ (es : List (List AV)), (∀ us ∈ es, ∃ x, us = f x ∧ q x) → ∃ l : List α, es.flatten = l.flatMap f ∧ l.length = es.length ∧ ∀ x ∈ l, q x
  | [], _ => ⟨[], rfl, rfl, fun x h => by simp at h⟩
  | us :: es, h => by
    obtain ⟨l, h1, h2, h3⟩ := flat_all es fun u hu => h u (List.mem_cons_of_mem _ hu)
    obtain ⟨x, rfl, hx⟩ := h us List.mem_cons_self
    exact ⟨x :: l, by simp [h1], by simp [h2], fun y hy => by
      rcases List.mem_cons.1 hy with rfl | hy
      · exact hx
      · exact h3 y hy⟩
theorem flat_one {α : Type} (f : α → AV) : ∀ (l : List α), l.flatMap (fun x => [f x]) = l.map f
  | [] => rfl
  | x :: l => by rw [List.flatMap_cons, flat_one f l]; rfl
theorem cells_slice {α : Type} {t e : TypeId} {us : List AV} {f : α → List AV} {q : α → Prop} (hu : P.underlying t = some (.slice e)) (h : CellsOk P t us) (he : ∀ us, CellsOk P e us → ∃ x, us = f x ∧ q x) : ∃ l : List α, us = [.sl 1 l.length (l.flatMap f)] ∧ ∀ x ∈ l, q x := by
  cases h with
  | int _ k' n ht hn => rw [hu] at ht; cases ht
  | bool _ b ht => rw [hu] at ht; cases ht
  | str _ s ht hs => rw [hu] at ht; cases ht
  | sl _ e' es ht hz hes =>
    rw [hu] at ht; cases ht
    obtain ⟨l, h1, h2, h3⟩ := flat_all (f := f) (q := q) es fun us hus => he us (hes us hus)
    exact ⟨l, by rw [h1, h2], h3⟩
  | struct _ fs us ht hl hf => rw [hu] at ht; cases ht
end Go.Am
namespace Go.Proofs.Ytjmdhfjemaoebaa
set_option maxRecDepth 20000
open Go.RowKit Go.Am Go.WideShapes Go.ChangeShapes
set_option linter.unusedSimpArgs false
theorem getb_n {bs : List Bool} {k : Nat} {K : AV → Prop} (h : k < bs.length) (hK : K (.bool (bs.getD k false))) : aGet ((bs.map .bool).drop ((k : Int).toNat * 1)) 0 K :=
  ⟨_, by rw [Int.toNat_natCast, Nat.mul_one]; simp [List.getElem?_drop, List.getElem?_eq_getElem h, List.getD], hK⟩
theorem getb_n0 {bs : List Bool} {k : Nat} {K : AV → Prop} (h : k < bs.length) (hK : K (.bool (bs.getD k false))) : aGet ((bs.map .bool).drop (0 + (k : Int).toNat * 1)) 0 K := by
  rw [Nat.zero_add]; exact getb_n h hK
theorem setb_n {bs : List Bool} {k : Nat} {b : Bool} {K : List AV → Prop} (hK : K ((bs.set k b).map .bool)) (h : k < bs.length) : aSet (bs.map .bool) (0 + (k : Int).toNat * 1) [.bool b] K := set_bool (by rw [Int.toNat_natCast]; exact hK) (by omega)
theorem cut_bools {bs : List Bool} {k : List AV → Prop} {f : Nat} (hk : k (bs.map .bool)) : aCut (f + 1) (bs.map .bool) 0 (bs.length * 1) k := cut_all (by simp) (scalL_bools _) hk
theorem protL_bools (bs : List Bool) : protL (bs.map .bool) = true := scalL_prot (scalL_bools bs)
theorem uIIs : Try.prog.underlying 22 = some (.slice 34) := by kernel_rfl
theorem cell_int1 : Try.prog.cellsOf 3 = 1 := by kernel_rfl
theorem cell_ints1 : Try.prog.cellsOf 34 = 1 := by kernel_rfl
theorem cell_iis1 : Try.prog.cellsOf 22 = 1 := by kernel_rfl
/-- A list more in a row of lists, which grows. -/
theorem append_ll {env : List AV} {rows : List Row} {ctr low τ ver n τ' ver' : Nat} {A : List AV} {u : AV} {k : AV → St → Prop} (hr : rows[τ]? = some ⟨ver, 34, 1, A⟩) (hn : n = A.length) (hr' : rows[τ']? = some ⟨ver', 34, 1, [u]⟩) (hu : u.isOwn = false) (hle : n ≤ 1000) (hlow : low ≤ τ)
    (hk : k (.ref τ ctr 0 (n + 1)) ⟨env, rows.set τ ⟨ctr, 34, 1, A ++ [u]⟩, ctr + 1, low⟩) : aAppend Try.prog ⟨env, rows, ctr, low⟩ 22 (.ref τ ver 0 n) (.ref τ' ver' 0 1) k := by
  have hb : (bsz Try.prog 34) = some 24 := by kernel_rfl
  have hz : zeroCellsA Try.prog 34 = some [.nil] := by kernel_rfl
  have hty : Try.prog.underlying 22 = some (.slice 34) := by kernel_rfl
  have hs : ∀ K : Nat → Prop, K 1 → aSz Try.prog 34 K := fun K h => by
    have : tsz Try.prog 34 = some 1 := by kernel_rfl
    unfold aSz; rw [this]; exact h
  subst hn
  unfold aAppend
  rw [hty]
  simp only
  rw [hz]
  simp only
  refine hs _ ?_
  unfold aElems aRow
  simp only [hr']
  rw [if_pos trivial, if_pos (.inr trivial)]
  refine ⟨⟨by simp, by simp [hu]⟩, ⟨rfl, by rw [hb]; rfl, by rw [hb]; decide⟩, ?_⟩
  simp only [hr]
  rw [if_pos trivial, if_pos (by simp)]
  refine ⟨by simp, fun h => by omega, fun _ h => by exfalso; omega, fun _ _ => ⟨hlow, by rw [hb]; simp only [Option.getD_some]; omega, ?_⟩⟩
  have e : A.take (A.length * 1) = A := List.take_of_length_le (by omega)
  rw [e]
  simpa using hk
/-- The same in a row that has room. -/
theorem append_lr {env : List AV} {rows : List Row} {ctr low τ ver n τ' ver' r : Nat} {A : List AV} {u : AV} {k : AV → St → Prop} (hr : rows[τ]? = some ⟨ver, 34, 1, A ++ List.replicate r .nil⟩) (hn : n = A.length) (hr' : rows[τ']? = some ⟨ver', 34, 1, [u]⟩) (hu : u.isOwn = false) (hle : 1 ≤ r)
    (hk : k (.ref τ ver 0 (n + 1)) ⟨env, rows.set τ ⟨ver, 34, 1, A ++ ([u] ++ List.replicate (r - 1) .nil)⟩, ctr, low⟩) : aAppend Try.prog ⟨env, rows, ctr, low⟩ 22 (.ref τ ver 0 n) (.ref τ' ver' 0 1) k := by
  have hb : (bsz Try.prog 34) = some 24 := by kernel_rfl
  have hz : zeroCellsA Try.prog 34 = some [.nil] := by kernel_rfl
  have hty : Try.prog.underlying 22 = some (.slice 34) := by kernel_rfl
  have hs : ∀ K : Nat → Prop, K 1 → aSz Try.prog 34 K := fun K h => by
    have : tsz Try.prog 34 = some 1 := by kernel_rfl
    unfold aSz; rw [this]; exact h
  subst hn
  unfold aAppend
  rw [hty]
  simp only
  rw [hz]
  simp only
  refine hs _ ?_
  unfold aElems aRow
  simp only [hr']
  rw [if_pos trivial, if_pos (.inr trivial)]
  refine ⟨⟨by simp, by simp [hu]⟩, ⟨rfl, by rw [hb]; rfl, by rw [hb]; decide⟩, ?_⟩
  simp only [hr]
  rw [if_pos trivial, if_pos (by simp)]
  refine ⟨by simp, fun h => by omega, fun _ _ => ?_, fun _ h => ?_⟩
  · have e1 : (A ++ List.replicate r AV.nil).take (A.length * 1) = A := by rw [Nat.mul_one]; exact List.take_left
    have e2 : (A ++ List.replicate r AV.nil).drop (A.length * 1 + [u].length) = List.replicate (r - 1) AV.nil := by
      rw [Nat.mul_one, ← List.drop_drop, List.drop_left, List.drop_replicate]; rfl
    simp only [Nat.zero_mul, List.drop_zero, Nat.one_mul, List.take_of_length_le (show [u].length ≤ 1 from Nat.le_refl _)]
    rw [e1, e2]
    simpa [St.setRow, Row.putC] using hk
  · exfalso; simp at h; omega
end Go.Proofs.Ytjmdhfjemaoebaa

/- Chapter 3: the shapes of all nodes. -/
namespace Go.Proofs.Ytjmdhfjemaoebaa
set_option maxRecDepth 20000
open Go.RowKit Go.Am
set_option linter.unusedSimpArgs false

theorem kL_ok {x : Nd} {k : Nat} {ss ins : List (List Int)} (hf : formP x k ins.length) (hl : ss.length = k) (hss : allOk ss) (hins : allOk ins) (hk : kOk x ss) : shapeOk (kL x ss ins) = true := by
  obtain ⟨f1, f2, f3, f4, f5, f6, f7⟩ := hf
  by_cases o0 : x.op = 0
  · have : kL x ss ins = ins.getD x.a.toNat [] := by simp [kL, o0]
    rw [this]; exact hins _ (by omega)
  · by_cases o1 : x.op = 1
    · have : kL x ss ins = [] := by simp [kL, o1]
      rw [this]; rfl
    · have hA : shapeOk (shA x ss) = true := hss _ (by omega)
      by_cases h2 : x.op ≤ 5 ∨ 11 ≤ x.op
      · have hB : shapeOk (shB x ss) = true := hss _ (by omega)
        exact ((com_z (ins := ins) ⟨by omega, f1.2⟩ hA hB (fun _ => rfl)).b hk).2.2
      · exact ((com_z (ins := ins) ⟨by omega, f1.2⟩ hA hA (fun h => absurd h h2)).b hk).2.2
def nodeP (ins : List (List Int)) (ns : List Nd) (ss : List (List Int)) (k : Nat) : Prop := formP (ns.getD k default) k ins.length ∧ kOk (ns.getD k default) ss
instance (ins : List (List Int)) (ns : List Nd) (ss : List (List Int)) (k : Nat) : Decidable (nodeP ins ns ss k) := by unfold nodeP; infer_instance
def shTo (ins : List (List Int)) (ns : List Nd) : Nat → Option (List (List Int))
  | 0 => some []
  | k + 1 => (shTo ins ns k).bind fun ss => if nodeP ins ns ss k then some (ss ++ [kL (ns.getD k default) ss ins]) else none
theorem shTo_t {ins : List (List Int)} {ns : List Nd} {k : Nat} {ss : List (List Int)} (h : shTo ins ns k = some ss) (hp : nodeP ins ns ss k) : shTo ins ns (k + 1) = some (ss ++ [kL (ns.getD k default) ss ins]) := by
  rw [shTo, h]; exact if_pos hp
theorem shTo_f {ins : List (List Int)} {ns : List Nd} {k : Nat} {ss : List (List Int)} (h : shTo ins ns k = some ss) (hp : ¬ nodeP ins ns ss k) : shTo ins ns (k + 1) = none := by
  rw [shTo, h]; exact if_neg hp
theorem shTo_none {ins : List (List Int)} {ns : List Nd} {k : Nat} (h : shTo ins ns k = none) : ∀ n, k ≤ n → shTo ins ns n = none
  | 0, hk => by
    have : k = 0 := by omega
    rw [← this]; exact h
  | n + 1, hk => by
    by_cases e : k = n + 1
    · rw [← e]; exact h
    · rw [shTo, shTo_none h n (by omega)]; rfl
theorem shTo_len {ins : List (List Int)} {ns : List Nd} : ∀ {k : Nat} {ss : List (List Int)}, shTo ins ns k = some ss → ss.length = k
  | 0, ss, h => by cases h; rfl
  | k + 1, ss, h => by
    rw [shTo] at h
    cases e : shTo ins ns k with
    | none => rw [e] at h; cases h
    | some s =>
      rw [e] at h
      have h : (if nodeP ins ns s k then some (s ++ [kL (ns.getD k default) s ins]) else none) = some ss := h
      split at h
      · cases h; rw [List.length_append, shTo_len e]; rfl
      · cases h
theorem shTo_ok {ins : List (List Int)} {ns : List Nd} (hins : allOk ins) : ∀ {k : Nat} {ss : List (List Int)}, shTo ins ns k = some ss → allOk ss
  | 0, ss, h => by cases h; intro j hj; simp at hj
  | k + 1, ss, h => by
    rw [shTo] at h
    cases e : shTo ins ns k with
    | none => rw [e] at h; cases h
    | some s =>
      rw [e] at h
      have h : (if nodeP ins ns s k then some (s ++ [kL (ns.getD k default) s ins]) else none) = some ss := h
      split at h
      · rename_i hp
        cases h
        have ih := shTo_ok hins e
        have hl := shTo_len e
        intro j hj
        rw [List.length_append] at hj
        by_cases hjk : j < s.length
        · have : (s ++ [kL (ns.getD k default) s ins]).getD j [] = s.getD j [] := by simp [List.getD, List.getElem?_append_left hjk]
          rw [this]; exact ih j hjk
        · have hjk' : j = s.length := by simp at hj; omega
          have : (s ++ [kL (ns.getD k default) s ins]).getD j [] = kL (ns.getD k default) s ins := by rw [hjk']; simp [List.getD]
          rw [this]; exact kL_ok hp.1 hl ih hins hp.2
      · cases h
abbrev LB := List (List Int) × Bool
def shM (ins : List (List Int)) (ns : List Nd) : LB :=
  if insOk ins ∧ 1 ≤ ns.length ∧ ns.length ≤ 12 then (match shTo ins ns ns.length with | some ss => (ss, true) | none => ([], false)) else ([], false)
theorem shM_t {ins : List (List Int)} {ns : List Nd} {ss : List (List Int)} (h : insOk ins ∧ 1 ≤ ns.length ∧ ns.length ≤ 12) (hs : shTo ins ns ns.length = some ss) : shM ins ns = (ss, true) := by unfold shM; rw [if_pos h, hs]
theorem shM_n {ins : List (List Int)} {ns : List Nd} (hs : shTo ins ns ns.length = none) : shM ins ns = ([], false) := by unfold shM; rw [hs]; split <;> rfl
theorem shM_f {ins : List (List Int)} {ns : List Nd} (h : ¬ (insOk ins ∧ 1 ≤ ns.length ∧ ns.length ≤ 12)) : shM ins ns = ([], false) := if_neg h
def eP (ns : List Nd) : Prop := ∀ j, j < ns.length → (ns.getD j default).l.length ≤ 1048576 ∧ wfL (ns.getD j default).l
end Go.Proofs.Ytjmdhfjemaoebaa
