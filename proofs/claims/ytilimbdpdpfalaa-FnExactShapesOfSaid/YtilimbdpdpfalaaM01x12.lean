import Derived.Test.YtilimbdpdpfalaaM01x11
import Derived.Test.YtilimbdpdpfalaaM01x9
import Derived.Test.YtilimbdpdpfalaaM01x10
import Derived.Handed
import Derived.JoinedOf
import Derived.Test.YtilimbdpdpfalaaRows
/- Chapter 2: tensors as arguments; TensorOk. -/
namespace Go.Proofs.Ytilimbdpdpfalaa
set_option maxRecDepth 20000
open Go.RowKit Go.Am
attribute [local irreducible] aPlan aGet aIf aLoop aCall RetB NextB CallB CallG aCut aSet aAppend

def numOk (z : Int) : Bool := decide (-1000000000 ≤ z ∧ z ≤ 1000000000)
def tensorOk (xs zs : List Int) : Bool := shapeOk xs && (decide ((zs.length : Int) = cntTo xs xs.length) && zs.all numOk)
theorem tensorOk_iff (xs zs : List Int) : tensorOk xs zs = true ↔ shapeOk xs = true ∧ (zs.length : Int) = cntTo xs xs.length ∧ ∀ j, j < zs.length → -1000000000 ≤ zs.getD j 0 ∧ zs.getD j 0 ≤ 1000000000 := by
  unfold tensorOk
  rw [Bool.and_eq_true, Bool.and_eq_true, all_iff, decide_eq_true_iff]
  simp only [numOk, decide_eq_true_iff]
def sTensorOk : CSpec := fnS (ι := Nat × List Int × Nat × List Int) (fun | (c, xs, d, zs) => [.agg [.sl c xs.length (xs.map (.int .i64)), .sl d zs.length (zs.map (.int .i64))]]) (fun _ => True) (fun | (_, xs, _, zs) => .bool (tensorOk xs zs))

theorem tensorOk_t {xs zs : List Int} (h1 : shapeOk xs = true) (h2 : (zs.length : Int) = cntTo xs xs.length) (h3 : ∀ j, j < zs.length → -1000000000 ≤ zs.getD j 0 ∧ zs.getD j 0 ≤ 1000000000) : tensorOk xs zs = true := (tensorOk_iff _ _).2 ⟨h1, h2, h3⟩
theorem tensorOk_f1 {xs zs : List Int} (h : shapeOk xs = false) : tensorOk xs zs = false := by unfold tensorOk; rw [h]; rfl
theorem tensorOk_f2 {xs zs : List Int} (h : (zs.length : Int) ≠ cntTo xs xs.length) : tensorOk xs zs = false := by
  rw [← Bool.not_eq_true, tensorOk_iff]; exact fun h' => h h'.2.1
theorem tensorOk_f3 {xs zs : List Int} {k : Nat} (hk : k < zs.length) (h : ¬ (-1000000000 ≤ zs.getD k 0 ∧ zs.getD k 0 ≤ 1000000000)) : tensorOk xs zs = false := by
  rw [← Bool.not_eq_true, tensorOk_iff]; exact fun h' => h (h'.2.2 k hk)
theorem num_next {zs : List Int} {k : Nat} (h : ∀ j, j < k → -1000000000 ≤ zs.getD j 0 ∧ zs.getD j 0 ≤ 1000000000) (h' : -1000000000 ≤ zs.getD k 0 ∧ zs.getD k 0 ≤ 1000000000) : ∀ j, j < k + 1 → -1000000000 ≤ zs.getD j 0 ∧ zs.getD j 0 ≤ 1000000000 := fun j hj => by
  rcases Nat.lt_succ_iff_lt_or_eq.1 hj with h1 | rfl
  · exact h j h1
  · exact h'

set_option maxRecDepth 10000 in
theorem sTensorOk_sound : Sound Try.prog 82 sTensorOk := by
  refine sound_of Try.func82 rfl (enters_of Try.func82 (by kernel_rfl) (by kernel_rfl)) ?_
  rintro ⟨c, xs, d, zs⟩ -
  conv => whnf
  repeat' (first
    | (refine plan_in (id := 1) [0, 1, 2, 3, 4, 5, 6, 7, 8, 9, 10, 11, 12] (by kernel_rfl) (by kernel_rfl) ?_; conv => whnf)
    | (refine aIf_t ?_; conv => whnf)
    | (refine aIf_f ?_; conv => whnf)
    | (refine fun (_ : _ ≤ maxLen) => ?_; conv => whnf)
    | (refine aGet_in rfl ?_; conv => whnf)
    | (refine And.intro rfl (And.intro (List.cons_ne_nil _ _) ?_); conv => whnf)
    | (refine And.intro (pureL_ints _ _) ?_; conv => whnf)
    | (refine sShapeOk_call ?_; conv => whnf)
    | (refine l1Count_call ?_; conv => whnf)
    | refine aIf_eqf ?_
    | refine aIf_not ?_
    | (refine aIf_dec (fun _ => ?_) (fun _ => ?_) <;> conv => whnf)
    | (refine aIf_in (fun _ => ?_) (fun _ => ?_) <;> conv => whnf))
  · rename_i h1 _ h2
    refine loop_in (ι := Nat) (fun k => ⟨[.un, .ptr 0 1 0, .bool false, .int .i64 k, .un, .un, .un, .un, .un, .un, .un, .un, .un, .un, .un, .un, .un, .un, .un, .un, .un, .un, .un, .un, .un, .un, .un, .un, .un, .un, .un], [⟨1, 67, 2, [.sl c xs.length (xs.map (.int .i64)), .sl d zs.length (zs.map (.int .i64))]⟩], 4, 0⟩)
      (fun k => k ≤ zs.length ∧ ∀ j, j < k → -1000000000 ≤ zs.getD j 0 ∧ zs.getD j 0 ≤ 1000000000) (fun k => zs.length - k) 0 ⟨Nat.zero_le _, fun j hj => absurd hj (Nat.not_lt_zero _)⟩ ?_ ?_
    · repeat' (first
        | exact trivial
        | exact rfl
        | exact Or.inl (And.intro (pureL_pair _ _ _ _ _ _) rfl)
        | refine And.intro ?_ ?_
        | exact Nat.le_of_ble_eq_true rfl)
    · rintro k ⟨hk, hall⟩
      conv => whnf
      repeat' (first
        | (refine plan_in (id := 1) [0, 1, 2, 3, 4, 5, 6, 7, 8, 9, 10, 11, 12] (by kernel_rfl) (by kernel_rfl) ?_; conv => whnf)
        | (refine fun (_ : _ ≤ maxLen) => ?_; conv => whnf)
        | (refine get_nat (by omega) ?_; conv => whnf)
        | (refine aGet_in rfl ?_; conv => whnf)
        | (refine And.intro (by omega) ?_; conv => whnf)
        | (refine callG_t ?_; conv => whnf)
        | (refine in_call ?_; conv => whnf)
        | refine aIf_not ?_
        | (refine aIf_dec (fun _ => ?_) (fun _ => ?_) <;> conv => whnf))
      · rename_i h3 h4
        refine next_in (k + 1) (by omega) ⟨by omega, num_next hall h4⟩ ?_
        have hmax : maxLen = 9223372036854775807 := rfl
        repeat' (first
          | exact trivial
          | exact rfl
          | exact Or.inl (And.intro (pureL_pair _ _ _ _ _ _) rfl)
          | refine And.intro ?_ ?_
          | exact Nat.le_of_ble_eq_true rfl
          | exact int_eq (by rw [IntWalk.i64_in _ (by omega)] <;> omega))
      · rename_i h3 h4
        exact retS rfl (congrArg AV.bool (tensorOk_f3 (k := k) (by omega) h4).symm)
      · exact retS rfl (congrArg AV.bool (tensorOk_t h1 h2 (fun j hj => hall j (by omega))).symm)
  · rename_i h
    exact retS rfl (congrArg AV.bool (tensorOk_f2 h).symm)
  · rename_i h
    exact retS rfl (congrArg AV.bool (tensorOk_f1 h).symm)

theorem cnt_count {xs : List Int} (h : shapeOk xs = true) : countOf xs = cntTo xs xs.length := if_pos h
theorem btw_num (zs : List Int) : btw zs (-1000000000) 1000000000 = zs.all numOk := rfl
set_option maxRecDepth 10000 in
theorem iTensorOk_sound : Sound Try.prog 85 sTensorOk := by
  refine sound_of Try.func85 rfl (enters_of Try.func85 (by kernel_rfl) (by kernel_rfl)) ?_
  rintro ⟨c, xs, d, zs⟩ -
  by_cases h : shapeOk xs = true ∧ (zs.length : Int) = cntTo xs xs.length
  · obtain ⟨h1, h2⟩ := h
    have hc := cnt_count h1
    have e : tensorOk xs zs = btw zs (-1000000000) 1000000000 := by unfold tensorOk; rw [h1, decide_eq_true h2, Bool.true_and, Bool.true_and, btw_num]
    conv => whnf
    repeat' (first
      | (refine plan_in (id := 1) [0, 1, 2, 3, 4, 5, 6, 7, 8, 9, 10, 11, 12] (by kernel_rfl) (by kernel_rfl) ?_; conv => whnf)
      | (refine aIf_t ?_; conv => whnf)
      | (refine aIf_f ?_; conv => whnf)
      | (refine fun (_ : _ ≤ maxLen) => ?_; conv => whnf)
      | (refine aGet_in rfl ?_; conv => whnf)
      | (refine And.intro rfl (And.intro (List.cons_ne_nil _ _) ?_); conv => whnf)
      | (refine allBetween_call trivial ?_; conv => whnf)
      | (refine And.intro (pureL_ints _ _) ?_; conv => whnf)
      | (refine iCountOf_call ?_; conv => whnf)
      | refine aIf_eqt ?_
      | (refine aIf_dec (fun _ => ?_) (fun _ => ?_) <;> conv => whnf))
    all_goals (first | (exfalso; omega) | exact retS rfl (congrArg AV.bool e.symm))
  · have e : tensorOk xs zs = false := by
      rw [← Bool.not_eq_true, tensorOk_iff]; exact fun h' => h ⟨h'.1, h'.2.1⟩
    have hn : (zs.length : Int) ≠ countOf xs := by
      by_cases h1 : shapeOk xs = true
      · rw [cnt_count h1]; exact fun h' => h ⟨h1, h'⟩
      · have : countOf xs = -1 := if_neg h1
        rw [this]; omega
    conv => whnf
    repeat' (first
      | (refine plan_in (id := 1) [0, 1, 2, 3, 4, 5, 6, 7, 8, 9, 10, 11, 12] (by kernel_rfl) (by kernel_rfl) ?_; conv => whnf)
      | (refine aIf_t ?_; conv => whnf)
      | (refine aIf_f ?_; conv => whnf)
      | (refine fun (_ : _ ≤ maxLen) => ?_; conv => whnf)
      | (refine aGet_in rfl ?_; conv => whnf)
      | (refine And.intro (by omega) ?_; conv => whnf)
      | (refine And.intro rfl (And.intro (List.cons_ne_nil _ _) ?_); conv => whnf)
      | (refine allBetween_call trivial ?_; conv => whnf)
      | (refine And.intro (pureL_ints _ _) ?_; conv => whnf)
      | (refine iCountOf_call ?_; conv => whnf)
      | refine aIf_eqt ?_
      | (refine aIf_dec (fun _ => ?_) (fun _ => ?_) <;> conv => whnf))
    all_goals (first | (exfalso; omega) | exact retS rfl (congrArg AV.bool e.symm))
theorem sTensorOk_call {c d : Nat} {xs zs : List Int} {env : List AV} {rows : List Row} {ctr low : Nat} {k : AV → St → Prop} (h : k (.bool (tensorOk xs zs)) ⟨env, rows, ctr + 1, low⟩) :
    CallB Try.prog 82 ⟨env, rows, ctr, low⟩ [.agg [.sl c xs.length (xs.map (.int .i64)), .sl d zs.length (zs.map (.int .i64))]] k := callS_in sTensorOk_sound (c, xs, d, zs) trivial rfl h
theorem iTensorOk_call {c d : Nat} {xs zs : List Int} {env : List AV} {rows : List Row} {ctr low : Nat} {k : AV → St → Prop} (h : k (.bool (tensorOk xs zs)) ⟨env, rows, ctr + 1, low⟩) :
    CallB Try.prog 85 ⟨env, rows, ctr, low⟩ [.agg [.sl c xs.length (xs.map (.int .i64)), .sl d zs.length (zs.map (.int .i64))]] k := callS_in iTensorOk_sound (c, xs, d, zs) trivial rfl h
end Go.Proofs.Ytilimbdpdpfalaa

/- Chapter 2: what the laws do with tensors. -/
namespace Go.Proofs.Ytilimbdpdpfalaa
set_option maxRecDepth 20000
open Go.RowKit Go.Am
attribute [local irreducible] aPlan aGet aIf aLoop aCall RetB NextB CallB CallG aCut aSet aAppend

/-- What is left behind lists: at least nought, then the lists are short. -/
abbrev leftOf (zs : List Int) (m : Int) (r : AV) (news : List Row) : Prop := ∃ n : Int, r = .int .i64 n ∧ news = [] ∧ (n < 0 ∨ (0 ≤ n ∧ n = m - zs.length))
set_option maxRecDepth 10000 in
theorem szIntS_sound : Sound Try.prog 90 (fnP (ι := Nat × List Int × Int) (fun | (c, zs, m) => [.sl c zs.length (zs.map (.int .i64)), .int .i64 m]) (fun | (_, _, m) => 0 ≤ m ∧ m ≤ 1048576) (fun | (_, zs, m) => leftOf zs m)) := by
  refine sound_of Try.func90 rfl (enters_of Try.func90 (by kernel_rfl) (by kernel_rfl)) ?_
  rintro ⟨c, zs, m⟩ hpre
  have hpre : 0 ≤ m ∧ m ≤ 1048576 := hpre
  have hmax : maxLen = 9223372036854775807 := rfl
  conv => whnf
  repeat' (first
    | (refine fun (_ : _ ≤ maxLen) => ?_; conv => whnf)
    | (refine aIf_dec (fun _ => ?_) (fun _ => ?_) <;> conv => whnf))
  · exact retP1 (L := []) (by simp) rfl rfl ⟨_, rfl, rfl, .inl (by decide)⟩
  · rename_i h1 h2
    rw [IntWalk.i64_in (m - zs.length) (by omega)] at h2
    exact retP1 (L := []) (by simp) rfl rfl ⟨_, rfl, rfl, .inr (by rw [IntWalk.i64_in _ (by omega)]; omega)⟩
theorem szIntS_call {c : Nat} {zs : List Int} {m : Int} {env : List AV} {rows : List Row} {ctr low : Nat} {k : AV → St → Prop} (hpre : 0 ≤ m ∧ m ≤ 1048576) (hk : ∀ n : Int, (n < 0 ∨ (0 ≤ n ∧ n = m - zs.length)) → k (.int .i64 n) ⟨env, rows, ctr + 1, low⟩) :
    CallB Try.prog 90 ⟨env, rows, ctr, low⟩ [.sl c zs.length (zs.map (.int .i64)), .int .i64 m] k := callP_in szIntS_sound (c, zs, m) hpre (by
  rintro r news ⟨n, rfl, rfl, h⟩
  simpa [AV.back, St.news] using hk n h)

abbrev leftOf2 (xs zs : List Int) (m : Int) (r : AV) (news : List Row) : Prop := ∃ n : Int, r = .int .i64 n ∧ news = [] ∧ (n < 0 ∨ (0 ≤ n ∧ n = m - xs.length - zs.length))
set_option maxRecDepth 10000 in
theorem szTensor_sound : Sound Try.prog 81 (fnP (ι := Nat × List Int × Nat × List Int × Int) (fun | (c, xs, d, zs, m) => [.agg [.sl c xs.length (xs.map (.int .i64)), .sl d zs.length (zs.map (.int .i64))], .int .i64 m]) (fun | (_, _, _, _, m) => 0 ≤ m ∧ m ≤ 1048576) (fun | (_, xs, _, zs, m) => leftOf2 xs zs m)) := by
  refine sound_of Try.func81 rfl (enters_of Try.func81 (by kernel_rfl) (by kernel_rfl)) ?_
  rintro ⟨c, xs, d, zs, m⟩ hpre
  have hpre : 0 ≤ m ∧ m ≤ 1048576 := hpre
  conv => whnf
  repeat' (first
    | (refine aGet_in rfl ?_; conv => whnf)
    | (refine And.intro rfl (And.intro (List.cons_ne_nil _ _) ?_); conv => whnf)
    | (refine callG_t ?_; conv => whnf)
    | (refine szIntS_call (by omega) (fun _ _ => ?_); conv => whnf)
    | (refine And.intro (pureL_ints _ _) ?_; conv => whnf)
    | (refine aIf_dec (fun _ => ?_) (fun _ => ?_) <;> conv => whnf))
  · exact retP1 (L := []) (by simp) rfl rfl ⟨_, rfl, rfl, .inl (by decide)⟩
  · exact retP1 (L := []) (by simp) rfl rfl ⟨_, rfl, rfl, .inl (by decide)⟩
  · rename_i n1 h1 h2 n2 h3 h4
    exact retP1 (L := []) (by simp) rfl rfl ⟨_, rfl, rfl, .inr (by omega)⟩
theorem szTensor_call {c d : Nat} {xs zs : List Int} {m : Int} {env : List AV} {rows : List Row} {ctr low : Nat} {k : AV → St → Prop} (hpre : 0 ≤ m ∧ m ≤ 1048576) (hk : ∀ n : Int, (n < 0 ∨ (0 ≤ n ∧ n = m - xs.length - zs.length)) → k (.int .i64 n) ⟨env, rows, ctr + 1, low⟩) :
    CallB Try.prog 81 ⟨env, rows, ctr, low⟩ [.agg [.sl c xs.length (xs.map (.int .i64)), .sl d zs.length (zs.map (.int .i64))], .int .i64 m] k := callP_in szTensor_sound (c, xs, d, zs, m) hpre (by
  rintro r news ⟨n, rfl, rfl, h⟩
  simpa [AV.back, St.news] using hk n h)

set_option maxRecDepth 10000 in
theorem toTensor_sound : Sound Try.prog 84 (fnT (ι := Nat × List Int × Nat × List Int) 3 (fun | (c, xs, d, zs) => [.agg [.sl c xs.length (xs.map (.int .i64)), .sl d zs.length (zs.map (.int .i64))]]) (fun | (_, xs, _, zs) => xs.length ≤ 1048576 ∧ zs.length ≤ 1048576) (fun | (_, xs, _, _) => xs) (fun | (_, _, _, zs) => zs)) := by
  refine sound_of Try.func84 rfl (enters_of Try.func84 (by kernel_rfl) (by kernel_rfl)) ?_
  rintro ⟨c, xs, d, zs⟩ hpre
  have hpre : xs.length ≤ 1048576 ∧ zs.length ≤ 1048576 := hpre
  conv => whnf
  repeat' (first
    | (refine aGet_in rfl ?_; conv => whnf)
    | (refine load_same ?_; conv => whnf)
    | (refine And.intro rfl (And.intro (List.cons_ne_nil _ _) ?_); conv => whnf)
    | (refine And.intro (Nat.le_of_ble_eq_true rfl) ?_; conv => whnf)
    | (refine callG_t ?_; conv => whnf)
    | (refine takeN_in ?_; conv => whnf)
    | (refine And.intro (pureL_ints _ _) ?_; conv => whnf)
    | (refine toIntS_call (by omega) ?_; conv => whnf)
    | (refine set_force ?_; conv => whnf)
    | (refine And.intro (by kernel_rfl) ?_; conv => whnf))
  refine retT ?_ ?_ ?_ ?_ ?_
  all_goals (first | exact rfl | decide)
theorem toTensor_call {c d : Nat} {xs zs : List Int} {env : List AV} {rows : List Row} {ctr low : Nat} {k : AV → St → Prop} (hpre : xs.length ≤ 1048576 ∧ zs.length ≤ 1048576)
    (hk : k (.agg [.ref rows.length ctr 0 xs.length, .ref (rows.length + 1) ctr 0 zs.length]) ⟨env, rows ++ [⟨ctr, 3, 1, xs.map (.int .i64)⟩, ⟨ctr, 3, 1, zs.map (.int .i64)⟩], ctr + 1, low⟩) :
    CallB Try.prog 84 ⟨env, rows, ctr, low⟩ [.agg [.sl c xs.length (xs.map (.int .i64)), .sl d zs.length (zs.map (.int .i64))]] k := callT_in toTensor_sound (c, xs, d, zs) hpre hk

set_option maxRecDepth 10000 in
theorem eqTensor_sound : Sound Try.prog 54 (fnS (ι := (Nat × List Int × Nat × List Int) × (Nat × List Int × Nat × List Int)) (fun | ((c, xs, d, zs), (e, ys, f, ws)) => [.agg [.sl c xs.length (xs.map (.int .i64)), .sl d zs.length (zs.map (.int .i64))], .agg [.sl e ys.length (ys.map (.int .i64)), .sl f ws.length (ws.map (.int .i64))]]) (fun _ => True) (fun | ((_, xs, _, zs), (_, ys, _, ws)) => .bool (decide ((xs, zs) = (ys, ws))))) := by
  refine sound_of Try.func54 rfl (enters_of Try.func54 (by kernel_rfl) (by kernel_rfl)) ?_
  rintro ⟨⟨c, xs, d, zs⟩, ⟨e, ys, f, ws⟩⟩ -
  conv => whnf
  repeat' (first
    | (refine aGet_in rfl ?_; conv => whnf)
    | (refine And.intro rfl (And.intro (List.cons_ne_nil _ _) ?_); conv => whnf)
    | (refine callG_t ?_; conv => whnf)
    | (refine And.intro (pureL_ints _ _) ?_; conv => whnf)
    | (refine eqIntS_call ?_; conv => whnf)
    | refine aIf_not ?_
    | (refine aIf_dec (fun _ => ?_) (fun _ => ?_) <;> conv => whnf))
  all_goals refine retS rfl (congrArg AV.bool ?_)
  all_goals simp_all
theorem eqTensor_call {c d e f : Nat} {xs zs ys ws : List Int} {env : List AV} {rows : List Row} {ctr low : Nat} {k : AV → St → Prop} (h : k (.bool (decide ((xs, zs) = (ys, ws)))) ⟨env, rows, ctr + 1, low⟩) :
    CallB Try.prog 54 ⟨env, rows, ctr, low⟩ [.agg [.sl c xs.length (xs.map (.int .i64)), .sl d zs.length (zs.map (.int .i64))], .agg [.sl e ys.length (ys.map (.int .i64)), .sl f ws.length (ws.map (.int .i64))]] k := callS_in eqTensor_sound ((c, xs, d, zs), (e, ys, f, ws)) trivial rfl h

def sMarkT : CSpec := fnMT (ι := List Int × List Int × Int) 3 (fun x => x.1) (fun x => x.2.1) (fun x => x.2.2) (fun x => x.1.length ≤ 1048576 ∧ x.2.1.length ≤ 1048576 ∧ 0 ≤ x.2.2 ∧ x.2.2 ≤ 100000000000) (fun x => x.2.2 + x.1.length + x.2.1.length) (fun x => marks x.2.2 x.1.length) (fun x => marks (x.2.2 + x.1.length) x.2.1.length)
set_option maxRecDepth 10000 in
theorem markTensor_sound : Sound Try.prog 56 sMarkT := by
  refine sound_of Try.func56 rfl (enters_of Try.func56 (by kernel_rfl) (by kernel_rfl)) ?_
  rintro ⟨xs, zs, m⟩ hpre
  have hpre : xs.length ≤ 1048576 ∧ zs.length ≤ 1048576 ∧ 0 ≤ m ∧ m ≤ 100000000000 := hpre
  conv => whnf
  dsimp only
  repeat' (first
    | (refine aGet_in rfl ?_; conv => whnf)
    | (refine And.intro rfl (And.intro (List.cons_ne_nil _ _) ?_); conv => whnf)
    | (refine mark_call rfl (by rfl) (by omega) ?_; conv => whnf))
  exact retMT (xs := xs) (zs := zs) rfl
theorem markTensor_call {xs zs : List Int} {m : Int} {env : List AV} {rows : List Row} {ctr low τ1 τ2 v1 v2 n1 n2 : Nat} {k : AV → St → Prop} (h1 : rows[τ1]? = some ⟨v1, 3, 1, xs.map (.int .i64)⟩) (h2 : rows[τ2]? = some ⟨v2, 3, 1, zs.map (.int .i64)⟩) (hne : τ1 ≠ τ2) (e1 : n1 = xs.length) (e2 : n2 = zs.length)
    (hpre : xs.length ≤ 1048576 ∧ zs.length ≤ 1048576 ∧ 0 ≤ m ∧ m ≤ 100000000000)
    (hk : k (.int .i64 (m + xs.length + zs.length)) ⟨env, setRows rows [τ1, τ2] [(marks m xs.length).map (.int .i64), (marks (m + xs.length) zs.length).map (.int .i64)], ctr + 1, low⟩) :
    CallG Try.prog 56 ⟨env, rows, ctr, low⟩ [.agg [.ref τ1 v1 0 n1, .ref τ2 v2 0 n2], .int .i64 m] k := callMT_in markTensor_sound (xs, zs, m) hpre h1 h2 hne e1 e2 rfl hk

/-- What was marked holds its marks. -/
def sHeldT : CSpec := fnS (ι := Nat × Nat × Nat × Nat × Int) (fun | (c, n, d, n', m) => [.agg [.sl c n ((marks m n).map (.int .i64)), .sl d n' ((marks (m + n) n').map (.int .i64))], .int .i64 m]) (fun | (_, n, _, n', m) => n ≤ 1048576 ∧ n' ≤ 1048576 ∧ 0 ≤ m ∧ m ≤ 100000000000) (fun | (_, n, _, n', m) => .int .i64 (m + n + n'))
set_option maxRecDepth 10000 in
theorem heldTensor_sound : Sound Try.prog 57 sHeldT := by
  refine sound_of Try.func57 rfl (enters_of Try.func57 (by kernel_rfl) (by kernel_rfl)) ?_
  rintro ⟨c, n, d, n', m⟩ hpre
  have hpre : n ≤ 1048576 ∧ n' ≤ 1048576 ∧ 0 ≤ m ∧ m ≤ 100000000000 := hpre
  conv => whnf
  repeat' (first
    | (refine aGet_in rfl ?_; conv => whnf)
    | (refine And.intro rfl (And.intro (List.cons_ne_nil _ _) ?_); conv => whnf)
    | (refine callG_t ?_; conv => whnf)
    | (refine And.intro (pureL_ints _ _) ?_; conv => whnf)
    | (refine held_marks_call rfl (by omega) ?_; conv => whnf)
    | (refine aIf_dec (fun _ => ?_) (fun _ => ?_) <;> conv => whnf))
  all_goals (first | (exfalso; omega) | skip)
  exact retS rfl rfl
theorem heldTensor_call {c d n n' k1 k2 : Nat} {m : Int} {env : List AV} {rows : List Row} {ctr low : Nat} {k : AV → St → Prop} (e1 : k1 = n) (e2 : k2 = n') (hpre : n ≤ 1048576 ∧ n' ≤ 1048576 ∧ 0 ≤ m ∧ m ≤ 100000000000) (h : k (.int .i64 (m + n + n')) ⟨env, rows, ctr + 1, low⟩) :
    CallB Try.prog 57 ⟨env, rows, ctr, low⟩ [.agg [.sl c k1 ((marks m n).map (.int .i64)), .sl d k2 ((marks (m + n) n').map (.int .i64))], .int .i64 m] k := by
  subst e1; subst e2
  exact callS_in heldTensor_sound (c, k1, d, k2, m) hpre rfl h
end Go.Proofs.Ytilimbdpdpfalaa

/- TurnOk. -/
namespace Go.Proofs.Ytilimbdpdpfalaa
set_option maxRecDepth 20000
open Go.RowKit Go.Am
attribute [local irreducible] aPlan aGet aIf aLoop aCall RetB NextB CallB CallG aCut aSet aAppend

/-- The axes that are seen among the first k; none, when one is no axis or comes twice. -/
def turnTo (zs : List Int) (n : Int) : Nat → Option (List Bool)
  | 0 => some (List.replicate n.toNat false)
  | k + 1 =>
    match turnTo zs n k with
    | some bs => if 0 ≤ zs.getD k 0 ∧ zs.getD k 0 < n ∧ bs.getD (zs.getD k 0).toNat false = false then some (bs.set (zs.getD k 0).toNat true) else none
    | none => none
theorem turnTo_next {zs : List Int} {n : Int} {k : Nat} {bs : List Bool} (h : turnTo zs n k = some bs) (h' : 0 ≤ zs.getD k 0 ∧ zs.getD k 0 < n ∧ bs.getD (zs.getD k 0).toNat false = false) : turnTo zs n (k + 1) = some (bs.set (zs.getD k 0).toNat true) := by
  unfold turnTo; rw [h]; simp only; rw [if_pos h']
theorem turnTo_f {zs : List Int} {n : Int} {k : Nat} {bs : List Bool} (h : turnTo zs n k = some bs) (h' : ¬ (0 ≤ zs.getD k 0 ∧ zs.getD k 0 < n ∧ bs.getD (zs.getD k 0).toNat false = false)) : turnTo zs n (k + 1) = none := by
  unfold turnTo; rw [h]; simp only; rw [if_neg h']
theorem turnTo_none {zs : List Int} {n : Int} {k : Nat} (h : turnTo zs n k = none) : ∀ d, turnTo zs n (k + d) = none
  | 0 => h
  | d + 1 => by
    have := turnTo_none h d
    show turnTo zs n (k + d + 1) = none
    unfold turnTo; rw [this]
def turnOk (zs : List Int) (n : Int) : Bool := decide (n ≤ 3 ∧ (zs.length : Int) = n) && (turnTo zs n zs.length).isSome
theorem turnOk_f {zs : List Int} {n : Int} (h : ¬ (n ≤ 3 ∧ (zs.length : Int) = n)) : turnOk zs n = false := by unfold turnOk; simp [h]
theorem turnOk_fk {zs : List Int} {n : Int} {k : Nat} {bs : List Bool} (hk : k < zs.length) (h : turnTo zs n k = some bs) (h' : ¬ (0 ≤ zs.getD k 0 ∧ zs.getD k 0 < n ∧ bs.getD (zs.getD k 0).toNat false = false)) : turnOk zs n = false := by
  have := turnTo_none (turnTo_f h h') (zs.length - (k + 1))
  rw [show k + 1 + (zs.length - (k + 1)) = zs.length by omega] at this
  unfold turnOk; simp [this]
theorem turnOk_t {zs : List Int} {n : Int} {bs : List Bool} (h : n ≤ 3 ∧ (zs.length : Int) = n) (h' : turnTo zs n zs.length = some bs) : turnOk zs n = true := by unfold turnOk; simp [h, h']

def sTurnOk : CSpec := fnS (ι := Nat × List Int × Int) (fun | (c, zs, n) => [.sl c zs.length (zs.map (.int .i64)), .int .i64 n]) (fun _ => True) (fun | (_, zs, n) => .bool (turnOk zs n))

def difOk (zs : List Int) (n : Int) : Bool := (turnTo zs n zs.length).isSome
theorem difOk_fk {zs : List Int} {n : Int} {k : Nat} {bs : List Bool} (hk : k < zs.length) (h : turnTo zs n k = some bs) (h' : ¬ (0 ≤ zs.getD k 0 ∧ zs.getD k 0 < n ∧ bs.getD (zs.getD k 0).toNat false = false)) : difOk zs n = false := by
  have := turnTo_none (turnTo_f h h') (zs.length - (k + 1))
  rw [show k + 1 + (zs.length - (k + 1)) = zs.length by omega] at this
  unfold difOk; rw [this]; rfl
theorem difOk_t {zs : List Int} {n : Int} {bs : List Bool} (h' : turnTo zs n zs.length = some bs) : difOk zs n = true := by unfold difOk; rw [h']; rfl
theorem differentOk_sound : Sound Try.prog 112 (fnS (ι := Nat × List Int × Int) (fun | (c, zs, n) => [.sl c zs.length (zs.map (.int .i64)), .int .i64 n]) (fun | (_, _, n) => 0 ≤ n ∧ n ≤ 1048576) (fun | (_, zs, n) => .bool (difOk zs n))) := by
  refine sound_of Try.func112 rfl (enters_of Try.func112 (by kernel_rfl) (by kernel_rfl)) ?_
  rintro ⟨c, zs, n⟩ hpre
  have hpre : 0 ≤ n ∧ n ≤ 1048576 := hpre
  have hmax : maxLen = 9223372036854775807 := rfl
  conv => whnf
  repeat' (first
    | (refine fun (_ : _ ≤ maxLen) => ?_; conv => whnf)
    | (refine And.intro (And.intro (Int.le_refl _) (And.intro (by kernel_rfl) (And.intro rfl (by kernel_rfl)))) (And.intro (And.intro (by omega) (And.intro (bytes_le (b := 1) rfl (by omega)) (by omega))) ?_); conv => whnf))
  refine loop_u (ι := Nat × List Bool) [false, true, false, false, false, true, false, false, false, false, true, true, true, false, false, false, false, false, false, false, false, false, false, false, false, false, false, false, false, false] (fun | (k, _) => [(12, .int .i64 k)]) (fun | (_, bs) => [(0, bs.map .bool)]) (fun | (k, bs) => k ≤ zs.length ∧ bs.length = n.toNat ∧ turnTo zs n k = some bs) (fun x => zs.length - x.1) ((0, List.replicate n.toNat false)) ⟨Nat.zero_le _, by simp, rfl⟩ ?_ ?_
  · conv => whnf
    repeat' (first
      | exact trivial
      | exact rfl
      | exact pureL_ints _ _
      | exact le_bools (rep_bools _)
      | refine And.intro ?_ ?_
      | exact Nat.le_of_ble_eq_true rfl)
  · rintro ⟨k, bs⟩ ⟨hk, hl, ht⟩
    have hk : k ≤ zs.length := hk
    have hl : bs.length = n.toNat := hl
    have ht : turnTo zs n k = some bs := ht
    conv => whnf
    repeat' (first
      | (refine aIf_t ?_; conv => whnf)
      | (refine aIf_f ?_; conv => whnf)
      | (refine get_nat (by omega) ?_; conv => whnf)
      | (refine And.intro (by omega) ?_; conv => whnf)
      | (refine callG_t ?_; conv => whnf)
      | (refine indexOk_call trivial ?_; conv => whnf)
      | (refine And.intro rfl (And.intro rfl (And.intro (by first | omega | (rw [List.length_map]; omega)) ?_)); conv => whnf)
      | (refine set_bool ?_ (by omega); conv => whnf)
      | (refine get_bool0 (by omega) ?_; conv => whnf)
      | refine aIf_eqf ?_
      | refine aIf_not ?_
      | (refine aIf_dec (fun _ => ?_) (fun _ => ?_) <;> conv => whnf)
      | (refine aIf_in (fun _ => ?_) (fun _ => ?_) <;> conv => whnf))
    all_goals (first
      | (exfalso; omega)
      | exact retS rfl (congrArg AV.bool (difOk_fk (k := k) (by omega) ht (by omega)).symm)
      | (rename_i hb; exact retS rfl (congrArg AV.bool (difOk_fk (k := k) (by omega) ht (by rw [hb]; simp)).symm))
      | (have e : k = zs.length := by omega
         subst e
         exact retS rfl (congrArg AV.bool (difOk_t ht).symm))
      | skip)
    rename_i hi hb
    refine next_u (k + 1, bs.set (zs.getD k 0).toNat true) (show zs.length - (k + 1) < zs.length - k by omega) ⟨(show k + 1 ≤ zs.length by omega), by simpa using hl, turnTo_next ht ⟨hi.1, hi.2, hb⟩⟩ ?_
    conv => whnf
    repeat' (first
      | exact trivial
      | exact rfl
      | exact pureL_ints _ _
      | exact le_bools rfl
      | refine And.intro ?_ ?_
      | exact Nat.le_of_ble_eq_true rfl
      | exact int_eq (by rw [IntWalk.i64_in _ (by omega)] <;> omega))
theorem differentOk_call {c : Nat} {zs : List Int} {n : Int} {env : List AV} {rows : List Row} {ctr low : Nat} {k : AV → St → Prop} (hpre : 0 ≤ n ∧ n ≤ 1048576) (h : k (.bool (difOk zs n)) ⟨env, rows, ctr + 1, low⟩) :
    CallB Try.prog 112 ⟨env, rows, ctr, low⟩ [.sl c zs.length (zs.map (.int .i64)), .int .i64 n] k := callS_in differentOk_sound (c, zs, n) hpre rfl h
set_option maxRecDepth 10000 in
theorem iTurnOk_sound : Sound Try.prog 164 sTurnOk := by
  refine sound_of Try.func164 rfl (enters_of Try.func164 (by kernel_rfl) (by kernel_rfl)) ?_
  rintro ⟨c, zs, n⟩ -
  by_cases hn : n ≤ 3 ∧ (zs.length : Int) = n
  · have h : turnOk zs n = difOk zs n := by unfold turnOk difOk; rw [decide_eq_true hn, Bool.true_and]
    conv => whnf
    repeat' (first
      | (refine aIf_t ?_; conv => whnf)
      | (refine aIf_f ?_; conv => whnf)
      | (refine fun (_ : _ ≤ maxLen) => ?_; conv => whnf)
      | (refine callG_t ?_; conv => whnf)
      | (refine differentOk_call (by first | omega | assumption | (refine ⟨?_, ?_⟩ <;> first | assumption | omega) | (refine ⟨?_, ?_, ?_⟩ <;> first | assumption | omega)) ?_; conv => whnf)
      | (refine And.intro (pureL_ints _ _) ?_; conv => whnf)
      | refine aIf_eqt ?_
      | (refine aIf_dec (fun _ => ?_) (fun _ => ?_) <;> conv => whnf))
    all_goals (first | (exfalso; omega) | exact retS rfl (congrArg AV.bool h.symm))
  · conv => whnf
    repeat' (first
      | (refine aIf_t ?_; conv => whnf)
      | (refine aIf_f ?_; conv => whnf)
      | (refine fun (_ : _ ≤ maxLen) => ?_; conv => whnf)
      | (refine And.intro (by omega) ?_; conv => whnf)
      | (refine callG_t ?_; conv => whnf)
      | (refine differentOk_call (by first | omega | assumption | (refine ⟨?_, ?_⟩ <;> first | assumption | omega) | (refine ⟨?_, ?_, ?_⟩ <;> first | assumption | omega)) ?_; conv => whnf)
      | refine aIf_eqt ?_
      | (refine aIf_dec (fun _ => ?_) (fun _ => ?_) <;> conv => whnf))
    all_goals (first | (exfalso; omega) | exact retS rfl (congrArg AV.bool (turnOk_f hn).symm))
theorem iTurnOk_call {c : Nat} {zs : List Int} {n : Int} {env : List AV} {rows : List Row} {ctr low : Nat} {k : AV → St → Prop} (h : k (.bool (turnOk zs n)) ⟨env, rows, ctr + 1, low⟩) :
    CallB Try.prog 164 ⟨env, rows, ctr, low⟩ [.sl c zs.length (zs.map (.int .i64)), .int .i64 n] k := callS_in iTurnOk_sound (c, zs, n) trivial rfl h

set_option maxRecDepth 10000 in
theorem sTurnOk_sound : Sound Try.prog 144 sTurnOk := by
  refine sound_of Try.func144 rfl (enters_of Try.func144 (by kernel_rfl) (by kernel_rfl)) ?_
  rintro ⟨c, zs, n⟩ -
  conv => whnf
  repeat' (first
    | (refine aIf_t ?_; conv => whnf)
    | (refine aIf_f ?_; conv => whnf)
    | (refine fun (_ : _ ≤ maxLen) => ?_; conv => whnf)
    | (refine And.intro (And.intro (Int.le_refl _) (And.intro (by kernel_rfl) (And.intro rfl (by kernel_rfl)))) (And.intro (And.intro (by omega) (And.intro (bytes_le (b := 1) rfl (by omega)) (by omega))) ?_); conv => whnf)
    | refine aIf_eqf ?_
    | refine aIf_not ?_
    | (refine aIf_dec (fun _ => ?_) (fun _ => ?_) <;> conv => whnf))
  · exact retS rfl (congrArg AV.bool (turnOk_f (by omega)).symm)
  · have hn' : n ≤ 3 ∧ (zs.length : Int) = n := by omega
    have hw : IntKind.i64.wrap (n - 1) = n - 1 := IntWalk.i64_in _ (by omega)
    refine loop_in (ι := Nat × List Bool) (fun | (k, bs) => ⟨[.sl c zs.length (zs.map (.int .i64)), .int .i64 n, .un, .un, .bool false, .ref 0 1 0 n.toNat, .int .i64 k, .un, .un, .un, .un, .un, .un, .un, .un, .un, .un, .un, .un, .un, .un, .un, .un, .un, .un, .un, .un, .un, .un, .un, .un, .un, .un, .un, .un, .un, .un, .un, .un, .un, .un, .un, .un, .un, .un], [⟨1, 4, 1, bs.map .bool⟩], 2, 0⟩)
      (fun x => x.1 ≤ zs.length ∧ x.2.length = n.toNat ∧ turnTo zs n x.1 = some x.2) (fun x => zs.length - x.1) (0, List.replicate n.toNat false) ⟨Nat.zero_le _, by simp, rfl⟩ ?_ ?_
    · repeat' (first
        | exact trivial
        | exact rfl
        | exact pureL_ints _ _
        | exact le_bools (rep_bools _)
        | refine And.intro ?_ ?_
        | exact Nat.le_of_ble_eq_true rfl)
    · rintro ⟨k, bs⟩ ⟨hk, hl, ht⟩
      have hk : k ≤ zs.length := hk
      have hl : bs.length = n.toNat := hl
      have ht : turnTo zs n k = some bs := ht
      conv => whnf
      repeat' (first
        | (refine aIf_t ?_; conv => whnf)
        | (refine aIf_f ?_; conv => whnf)
        | (refine get_nat (by omega) ?_; conv => whnf)
        | (refine And.intro (by omega) ?_; conv => whnf)
        | (refine callG_t ?_; conv => whnf)
        | (refine in_call ?_; conv => whnf)
        | (refine And.intro rfl (And.intro rfl (And.intro (by first | omega | (rw [List.length_map]; omega)) ?_)); conv => whnf)
        | (refine set_bool ?_ (by omega); conv => whnf)
        | (refine get_bool0 (by omega) ?_; conv => whnf)
        | refine aIf_eqf ?_
        | refine aIf_not ?_
        | (refine aIf_dec (fun _ => ?_) (fun _ => ?_) <;> conv => whnf)
        | (refine aIf_in (fun _ => ?_) (fun _ => ?_) <;> conv => whnf))
      · rename_i hb
        exact retS rfl (congrArg AV.bool (turnOk_fk (k := k) (by omega) ht (by rw [hb]; simp)).symm)
      · rename_i hb
        refine next_in (k + 1, bs.set (zs.getD k 0).toNat true) (show zs.length - (k + 1) < zs.length - k by omega) ⟨(show k + 1 ≤ zs.length by omega), by simpa using hl, turnTo_next ht ⟨by omega, by omega, hb⟩⟩ ?_
        have hmax : maxLen = 9223372036854775807 := rfl
        repeat' (first
          | exact trivial
          | exact rfl
          | exact pureL_ints _ _
          | exact le_bools rfl
          | refine And.intro ?_ ?_
          | exact Nat.le_of_ble_eq_true rfl
          | exact int_eq (by rw [IntWalk.i64_in _ (by omega)] <;> omega))
      · exact retS rfl (congrArg AV.bool (turnOk_fk (k := k) (by omega) ht (by omega)).symm)
      · have e : k = zs.length := by omega
        subst e
        exact retS rfl (congrArg AV.bool (turnOk_t hn' ht).symm)
  · exact retS rfl (congrArg AV.bool (turnOk_f (by omega)).symm)
theorem sTurnOk_call {c : Nat} {zs : List Int} {n : Int} {env : List AV} {rows : List Row} {ctr low : Nat} {k : AV → St → Prop} (h : k (.bool (turnOk zs n)) ⟨env, rows, ctr + 1, low⟩) :
    CallB Try.prog 144 ⟨env, rows, ctr, low⟩ [.sl c zs.length (zs.map (.int .i64)), .int .i64 n] k := callS_in sTurnOk_sound (c, zs, n) trivial rfl h
end Go.Proofs.Ytilimbdpdpfalaa

/- TurnShape and BackTurn. -/
namespace Go.Proofs.Ytilimbdpdpfalaa
set_option maxRecDepth 20000
open Go.RowKit Go.Am
attribute [local irreducible] aPlan aGet aIf aLoop aCall RetB NextB CallB CallG aCut aSet

theorem turnTo_in {zs : List Int} {n : Int} : ∀ {m : Nat} {bs : List Bool}, turnTo zs n m = some bs → ∀ k, k < m → 0 ≤ zs.getD k 0 ∧ zs.getD k 0 < n
  | 0, _, _, k, hk => absurd hk (Nat.not_lt_zero _)
  | m + 1, bs, h, k, hk => by
    unfold turnTo at h
    split at h
    · rename_i bs' h'
      split at h
      · rename_i hc
        rcases Nat.lt_succ_iff_lt_or_eq.1 hk with h1 | rfl
        · exact turnTo_in h' k h1
        · exact ⟨hc.1, hc.2.1⟩
      · cases h
    · cases h
theorem turnOk_in {zs : List Int} {n : Int} (h : turnOk zs n = true) : (n ≤ 3 ∧ (zs.length : Int) = n) ∧ ∀ k, k < zs.length → 0 ≤ zs.getD k 0 ∧ zs.getD k 0 < n := by
  unfold turnOk at h
  simp only [Bool.and_eq_true, decide_eq_true_iff] at h
  obtain ⟨bs, hb⟩ := Option.isSome_iff_exists.1 h.2
  exact ⟨h.1, turnTo_in hb⟩

/-- Where each axis goes. -/
def backTo (zs : List Int) : Nat → List Int
  | 0 => List.replicate zs.length 0
  | k + 1 => (backTo zs k).set (zs.getD k 0).toNat (k : Int)
theorem backTo_length (zs : List Int) : ∀ k, (backTo zs k).length = zs.length
  | 0 => by simp [backTo]
  | k + 1 => by simp [backTo, backTo_length zs k]
def backOk (zs : List Int) : Bool := turnOk zs zs.length
def backL (zs : List Int) : List Int := if backOk zs = true then backTo zs zs.length else []
theorem backL_t {zs : List Int} (h : turnOk zs zs.length = true) : backL zs = backTo zs zs.length := if_pos h
theorem backL_f {zs : List Int} (h : turnOk zs zs.length = false) : backL zs = [] := if_neg (by unfold backOk; rw [h]; decide)
theorem backL_le (zs : List Int) : (backL zs).length ≤ zs.length := by
  unfold backL; split
  · exact Nat.le_of_eq (backTo_length zs _)
  · exact Nat.zero_le _

def sBackTurn : CSpec := fnLB (ι := Nat × List Int) 3 (fun | (c, zs) => [.sl c zs.length (zs.map (.int .i64))]) (fun | (_, zs) => zs.length ≤ 1048576) (fun | (_, zs) => backL zs) (fun | (_, zs) => backOk zs)
theorem back_end {env : List AV} {rows : List Row} {ctr τ ver : Nat} {zs zs' : List Int} {b : Bool} {r : Row} {n : Nat} (e1 : backL zs = zs') (hr : rows[τ]? = some r) (hv : r.ver = ver) (e : r = ⟨ver, 3, 1, zs'.map (.int .i64)⟩) (hn : n = zs'.length) (hb : b = backOk zs) :
    RetB ⟨env, rows, ctr, 0⟩ [] (fun r ic news => r = .tup [.ref 0 0 0 (backL zs).length, .bool (backOk zs)] ∧ ic = [] ∧ news = [⟨0, 3, 1, (backL zs).map (.int .i64)⟩]) (.tup [.ref τ ver 0 n, .bool b]) := by
  rw [e1]; exact retLB hr hv e hn hb

end Go.Proofs.Ytilimbdpdpfalaa

/- TurnShape. -/
namespace Go.Proofs.Ytilimbdpdpfalaa
set_option maxRecDepth 20000
open Go.RowKit Go.Am
attribute [local irreducible] aPlan aGet aIf aLoop aCall RetB NextB CallB CallG aCut aSet

def turned (xs ax : List Int) : List Int := ax.map fun a => xs.getD a.toNat 0
theorem turned_length (xs ax : List Int) : (turned xs ax).length = ax.length := by simp [turned]
theorem turned_getD {xs ax : List Int} {j : Nat} (h : j < ax.length) : (turned xs ax).getD j 0 = xs.getD (ax.getD j 0).toNat 0 := by
  simp [turned, List.getD, List.getElem?_map, List.getElem?_eq_getElem h]
def tsOk (xs ax : List Int) : Bool := shapeOk xs && turnOk ax xs.length
def tsL (xs ax : List Int) : List Int := if tsOk xs ax = true then turned xs ax else []
theorem tsL_t {xs ax : List Int} (h : shapeOk xs = true) (h' : turnOk ax xs.length = true) : tsL xs ax = turned xs ax ∧ true = tsOk xs ax := ⟨if_pos (by unfold tsOk; rw [h, h']; rfl), by unfold tsOk; rw [h, h']; rfl⟩
theorem tsL_f1 {xs ax : List Int} (h : shapeOk xs = false) : tsL xs ax = [] ∧ false = tsOk xs ax := ⟨if_neg (by unfold tsOk; rw [h, Bool.false_and]; decide), by unfold tsOk; rw [h]; rfl⟩
theorem tsL_f2 {xs ax : List Int} (h' : turnOk ax xs.length = false) : tsL xs ax = [] ∧ false = tsOk xs ax := ⟨if_neg (by unfold tsOk; rw [h', Bool.and_false]; decide), by unfold tsOk; rw [h', Bool.and_false]⟩
theorem tsL_le (xs ax : List Int) : (tsL xs ax).length ≤ ax.length := by
  unfold tsL; split
  · exact Nat.le_of_eq (turned_length _ _)
  · exact Nat.zero_le _

def sTurnShape : CSpec := fnLB (ι := Nat × List Int × Nat × List Int) 3 (fun | (c, xs, d, ax) => [.sl c xs.length (xs.map (.int .i64)), .sl d ax.length (ax.map (.int .i64))]) (fun | (_, xs, _, ax) => xs.length ≤ 1048576 ∧ ax.length ≤ 1048576) (fun | (_, xs, _, ax) => tsL xs ax) (fun | (_, xs, _, ax) => tsOk xs ax)
theorem ts_end {env : List AV} {rows : List Row} {ctr τ ver : Nat} {xs ax zs' : List Int} {b : Bool} {r : Row} {n : Nat} (e1 : tsL xs ax = zs' ∧ b = tsOk xs ax) (hr : rows[τ]? = some r) (hv : r.ver = ver) (e : r = ⟨ver, 3, 1, zs'.map (.int .i64)⟩) (hn : n = zs'.length) :
    RetB ⟨env, rows, ctr, 0⟩ [] (fun r ic news => r = .tup [.ref 0 0 0 (tsL xs ax).length, .bool (tsOk xs ax)] ∧ ic = [] ∧ news = [⟨0, 3, 1, (tsL xs ax).map (.int .i64)⟩]) (.tup [.ref τ ver 0 n, .bool b]) := by
  rw [e1.1]; exact retLB hr hv e hn e1.2

theorem pickNums_sound : Sound Try.prog 98 (fnL (ι := Nat × List Int × Nat × List Int) 3 (fun | (c, xs, d, ax) => [.sl c xs.length (xs.map (.int .i64)), .sl d ax.length (ax.map (.int .i64))]) (fun | (_, xs, _, ax) => ax.length ≤ 1048576 ∧ ∀ j, j < ax.length → 0 ≤ ax.getD j 0 ∧ ax.getD j 0 < xs.length) (fun | (_, xs, _, ax) => turned xs ax)) := by
  refine sound_of Try.func98 rfl (enters_of Try.func98 (by kernel_rfl) (by kernel_rfl)) ?_
  rintro ⟨c, xs, d, ax⟩ hpre
  obtain ⟨hpl, hin⟩ : ax.length ≤ 1048576 ∧ ∀ j, j < ax.length → 0 ≤ ax.getD j 0 ∧ ax.getD j 0 < xs.length := hpre
  have hmax : maxLen = 9223372036854775807 := rfl
  conv => whnf
  repeat' (first
    | (refine fun (_ : _ ≤ maxLen) => ?_; conv => whnf)
    | (refine And.intro (And.intro (Int.le_refl _) (And.intro (by kernel_rfl) (And.intro rfl (by kernel_rfl)))) (And.intro (And.intro (by omega) (And.intro (bytes_le (b := 8) rfl (by omega)) (by omega))) ?_); conv => whnf))
  refine loop_u (ι := Nat × List Int) [true, false, false, false, false, true, false, false, false, false, false, true, true, true, false, false, false, false, false, false, false, false, false, false, false, false, false] (fun | (k, _) => [(13, .int .i64 k)]) (fun | (_, ws) => [(1, ws.map (.int .i64))]) (fun | (k, ws) => k ≤ ax.length ∧ ws.length = ax.length ∧ ∀ j, j < k → ws.getD j 0 = xs.getD (ax.getD j 0).toNat 0) (fun x => ax.length - x.1) ((0, List.replicate ax.length 0)) ⟨Nat.zero_le _, by simp, fun j hj => absurd hj (Nat.not_lt_zero _)⟩ ?_ ?_
  · conv => whnf
    repeat' (first
      | exact trivial
      | exact rfl
      | exact pureL_ints _ _
      | exact Or.inl (And.intro rfl rfl)
      | exact le_ints (rep_ints _ _)
      | refine And.intro ?_ ?_
      | exact Nat.le_of_ble_eq_true rfl)
  · rintro ⟨k, ws⟩ ⟨hk, hl, hall⟩
    have hk : k ≤ ax.length := hk
    have hl : ws.length = ax.length := hl
    have hall : ∀ j, j < k → ws.getD j 0 = xs.getD (ax.getD j 0).toNat 0 := hall
    have hink := hin k
    by_cases hlt : k < ax.length
    · have hink := hink hlt
      conv => whnf
      repeat' (first
        | (refine get_nat (by omega) ?_; conv => whnf)
        | (refine get_int (by omega) ?_; conv => whnf)
        | (refine And.intro (by omega) ?_; conv => whnf)
        | (refine And.intro rfl (And.intro rfl (And.intro (by first | omega | (rw [List.length_map]; omega)) ?_)); conv => whnf)
        | (refine set_nat ?_ (by omega); conv => whnf)
        | (refine aIf_dec (fun _ => ?_) (fun _ => ?_) <;> conv => whnf))
      all_goals (first | (exfalso; omega) | skip)
      refine next_u (k + 1, ws.set k (xs.getD (ax.getD k 0).toNat 0)) (show ax.length - (k + 1) < ax.length - k by omega) ⟨(show k + 1 ≤ ax.length by omega), by simpa using hl, fun j hj => ?_⟩ ?_
      · have hj : j < k + 1 := hj
        show (ws.set k (xs.getD (ax.getD k 0).toNat 0)).getD j 0 = _
        rw [getD_set (by omega)]
        split
        · rename_i e; rw [e]
        · exact hall j (by omega)
      · conv => whnf
        repeat' (first
          | exact trivial
          | exact rfl
          | exact pureL_ints _ _
          | exact Or.inl (And.intro rfl rfl)
          | exact le_ints rfl
          | refine And.intro ?_ ?_
          | exact Nat.le_of_ble_eq_true rfl
          | exact int_eq (by rw [IntWalk.i64_in _ (by omega)] <;> omega))
    · have e : k = ax.length := by omega
      have e : ws = turned xs ax := getD_ext (by rw [turned_length, hl]) fun j hj => by
        rw [turned_length] at hj
        rw [hall j (by omega), turned_getD hj]
      subst e
      conv => whnf
      repeat' (first
        | (refine get_nat (by omega) ?_; conv => whnf)
        | (refine And.intro (by omega) ?_; conv => whnf)
        | (refine set_nat ?_ (by omega); conv => whnf)
        | (refine aIf_dec (fun _ => ?_) (fun _ => ?_) <;> conv => whnf))
      all_goals (first | (exfalso; omega) | skip)
      exact retL rfl rfl rfl hl.symm
theorem pickNums_call {c d : Nat} {xs ax : List Int} {env : List AV} {rows : List Row} {ctr low : Nat} {k : AV → St → Prop} (hpre : ax.length ≤ 1048576 ∧ ∀ j, j < ax.length → 0 ≤ ax.getD j 0 ∧ ax.getD j 0 < xs.length) (h : k (.ref rows.length ctr 0 (turned xs ax).length) ⟨env, rows ++ [⟨ctr, 3, 1, (turned xs ax).map (.int .i64)⟩], ctr + 1, low⟩) :
    CallB Try.prog 98 ⟨env, rows, ctr, low⟩ [.sl c xs.length (xs.map (.int .i64)), .sl d ax.length (ax.map (.int .i64))] k := callL_in pickNums_sound (c, xs, d, ax) hpre h
set_option maxRecDepth 10000 in
theorem iTurnShape_sound : Sound Try.prog 157 sTurnShape := by
  refine sound_of Try.func157 rfl (enters_of Try.func157 (by kernel_rfl) (by kernel_rfl)) ?_
  rintro ⟨c, xs, d, ax⟩ hpre
  have hpre : xs.length ≤ 1048576 ∧ ax.length ≤ 1048576 := hpre
  cases hs : shapeOk xs with
  | false =>
    conv => whnf
    repeat' (first
      | (refine aIf_t ?_; conv => whnf)
      | (refine aIf_f ?_; conv => whnf)
      | (refine callG_t ?_; conv => whnf)
      | (refine And.intro (pureL_ints _ _) ?_; conv => whnf)
      | (refine iShapeOk_call ?_; conv => whnf)
      | (refine aIf_ff (by assumption) ?_; conv => whnf)
      | refine aIf_eqf ?_
      | refine aIf_not ?_)
    exact ts_end (tsL_f1 hs) rfl rfl rfl rfl
  | true =>
    cases ht : turnOk ax xs.length with
    | false =>
      conv => whnf
      repeat' (first
        | (refine aIf_t ?_; conv => whnf)
        | (refine aIf_f ?_; conv => whnf)
        | (refine fun (_ : _ ≤ maxLen) => ?_; conv => whnf)
        | (refine callG_t ?_; conv => whnf)
        | (refine And.intro (pureL_ints _ _) ?_; conv => whnf)
        | (refine iShapeOk_call ?_; conv => whnf)
        | (refine iTurnOk_call ?_; conv => whnf)
        | (refine aIf_tt (by assumption) ?_; conv => whnf)
        | (refine aIf_ff (by assumption) ?_; conv => whnf)
        | refine aIf_eqf ?_
        | refine aIf_not ?_)
      exact ts_end (tsL_f2 ht) rfl rfl rfl rfl
    | true =>
      have hin := (turnOk_in ht).2
      conv => whnf
      repeat' (first
        | (refine aIf_t ?_; conv => whnf)
        | (refine aIf_f ?_; conv => whnf)
        | (refine fun (_ : _ ≤ maxLen) => ?_; conv => whnf)
        | (refine callG_t ?_; conv => whnf)
        | (refine pickNums_call (by first | omega | assumption | (refine ⟨?_, ?_⟩ <;> first | assumption | omega) | (refine ⟨?_, ?_, ?_⟩ <;> first | assumption | omega)) ?_; conv => whnf)
        | (refine And.intro (pureL_ints _ _) ?_; conv => whnf)
        | (refine iShapeOk_call ?_; conv => whnf)
        | (refine iTurnOk_call ?_; conv => whnf)
        | (refine aIf_tt (by assumption) ?_; conv => whnf)
        | refine aIf_eqf ?_
        | refine aIf_not ?_)
      exact ts_end (tsL_t hs ht) rfl rfl rfl rfl

end Go.Proofs.Ytilimbdpdpfalaa

/- l1Turn. -/
namespace Go.Proofs.Ytilimbdpdpfalaa
set_option maxRecDepth 20000
open Go.RowKit Go.Am
theorem append_int {env : List AV} {rows : List Row} {ctr low τ ver n τ2 ver2 : Nat} {zs : List Int} {z : Int} {k : AV → St → Prop} (hr : rows[τ]? = some ⟨ver, 3, 1, zs.map (.int .i64)⟩) (hr2 : rows[τ2]? = some ⟨ver2, 3, 1, [.int .i64 z]⟩) (hn : n = zs.length) (hle : n ≤ 1000000) (hlow : low ≤ τ)
    (hk : k (.ref τ ctr 0 (n + 1)) ⟨env, rows.set τ ⟨ctr, 3, 1, (zs ++ [z]).map (.int .i64)⟩, ctr + 1, low⟩) : aAppend Try.prog ⟨env, rows, ctr, low⟩ 46 (.ref τ ver 0 n) (.ref τ2 ver2 0 1) k := by
  have hb : (bsz Try.prog 3) = some 8 := by kernel_rfl
  have hz : zeroCellsA Try.prog 3 = some [.int .i64 0] := by kernel_rfl
  have hu : Try.prog.underlying 46 = some (.slice 3) := by kernel_rfl
  have hs : ∀ K : Nat → Prop, K 1 → aSz Try.prog 3 K := fun K h => by
    have : tsz Try.prog 3 = some 1 := by kernel_rfl
    unfold aSz; rw [this]; exact h
  unfold aAppend
  rw [hu]
  simp only
  rw [hz]
  simp only
  refine hs _ ?_
  unfold aElems aRow
  simp only [hr2]
  rw [if_pos trivial, if_pos (.inr trivial)]
  refine ⟨⟨Nat.le_refl _, rfl⟩, ⟨rfl, by rw [hb]; rfl, by rw [hb]; decide⟩, ?_⟩
  simp only [hr]
  rw [if_pos trivial, if_pos (by simp)]
  refine ⟨by simp [hn], fun h => absurd h (by decide), fun _ h => ?_, fun _ _ => ⟨hlow, by rw [hb]; simp only [Option.getD_some]; omega, ?_⟩⟩
  · exfalso; simp at h; omega
  · have e : (zs.map (AV.int .i64)).take n = zs.map (.int .i64) := List.take_of_length_le (by simp [hn])
    simpa [e] using hk
attribute [local irreducible] aPlan aGet aIf aLoop aCall RetB NextB CallB CallG aCut aSet aAppend

theorem take_next {l : List Int} {k : Nat} (h : k < l.length) : l.take k ++ [l.getD k 0] = l.take (k + 1) := by
  rw [List.take_add_one, List.getElem?_eq_getElem h]
  simp [List.getD, List.getElem?_eq_getElem h]

set_option maxRecDepth 10000 in
theorem l1Turn_sound : Sound Try.prog 135 (fnL (ι := Nat × List Int × Nat × List Int) 3 (fun | (c, xs, d, ax) => [.sl c xs.length (xs.map (.int .i64)), .sl d ax.length (ax.map (.int .i64))]) (fun | (_, xs, _, ax) => ax.length ≤ 3 ∧ ∀ k, k < ax.length → 0 ≤ ax.getD k 0 ∧ ax.getD k 0 < xs.length) (fun | (_, xs, _, ax) => turned xs ax)) := by
  refine sound_of Try.func135 rfl (enters_of Try.func135 (by kernel_rfl) (by kernel_rfl)) ?_
  rintro ⟨c, xs, d, ax⟩ ⟨h3, hin⟩
  conv => whnf
  repeat' (first
    | (refine And.intro (And.intro (by kernel_rfl) (And.intro rfl (Nat.le_of_ble_eq_true rfl))) ?_; conv => whnf))
  refine loop_in (ι := Nat) (fun k => ⟨[.sl c xs.length (xs.map (.int .i64)), .sl d ax.length (ax.map (.int .i64)), .un, .un, .un, .ref 1 3 0 k, .int .i64 k, .un, .un, .un, .un, .un, .un, .un, .un, .un, .un, .un, .un, .un, .un, .un, .un, .un, .un], [⟨1, 3, 1, []⟩, ⟨3, 3, 1, ((turned xs ax).take k).map (.int .i64)⟩], 4, 0⟩)
    (fun k => k ≤ ax.length) (fun k => ax.length - k) 0 (Nat.zero_le _) ?_ ?_
  · repeat' (first
      | exact trivial
      | exact rfl
      | exact pureL_ints _ _
      | exact Or.inl (And.intro rfl rfl)
      | refine And.intro ?_ ?_
      | exact Nat.le_of_ble_eq_true rfl)
  · intro k hk
    have hk : k ≤ ax.length := hk
    have hin := hin k
    conv => whnf
    repeat' (first
      | (refine fun (_ : _ ≤ maxLen) => ?_; conv => whnf)
      | (refine get_nat (by omega) ?_; conv => whnf)
      | (refine get_int (by omega) ?_; conv => whnf)
      | (refine And.intro (by omega) ?_; conv => whnf)
      | (refine append_int rfl rfl (by first | rfl | (simp only [List.length_take, turned_length]; omega)) (by omega) (Nat.le_of_ble_eq_true rfl) ?_; conv => whnf)
      | (refine And.intro (And.intro (by kernel_rfl) (And.intro rfl (Nat.le_of_ble_eq_true rfl))) ?_; conv => whnf)
      | (refine aIf_dec (fun _ => ?_) (fun _ => ?_) <;> conv => whnf))
    · have e := take_next (l := turned xs ax) (k := k) (by rw [turned_length]; omega)
      rw [turned_getD (by omega)] at e
      rw [e]
      refine next_in (k + 1) (show ax.length - (k + 1) < ax.length - k by omega) (by omega) ?_
      repeat' (first
        | exact trivial
        | exact rfl
        | exact pureL_ints _ _
        | exact Or.inl (And.intro rfl rfl)
        | exact le_ints rfl
        | refine And.intro ?_ ?_
        | exact Nat.le_of_ble_eq_true rfl
        | exact int_eq (by rw [IntWalk.i64_in _ (by omega)] <;> omega))
    · have e : k = ax.length := by omega
      subst e
      have e : (turned xs ax).take ax.length = turned xs ax := List.take_of_length_le (by rw [turned_length]; exact Nat.le_refl _)
      rw [e]
      exact retL rfl rfl rfl (turned_length xs ax).symm
theorem l1Turn_call {c d : Nat} {xs ax : List Int} {env : List AV} {rows : List Row} {ctr low : Nat} {k : AV → St → Prop} (hpre : ax.length ≤ 3 ∧ ∀ k, k < ax.length → 0 ≤ ax.getD k 0 ∧ ax.getD k 0 < xs.length) (hk : k (.ref rows.length ctr 0 (turned xs ax).length) ⟨env, rows ++ [⟨ctr, 3, 1, (turned xs ax).map (.int .i64)⟩], ctr + 1, low⟩) :
    CallB Try.prog 135 ⟨env, rows, ctr, low⟩ [.sl c xs.length (xs.map (.int .i64)), .sl d ax.length (ax.map (.int .i64))] k := callL_in l1Turn_sound (c, xs, d, ax) hpre hk

set_option maxRecDepth 10000 in
theorem sTurnShape_sound : Sound Try.prog 125 sTurnShape := by
  refine sound_of Try.func125 rfl (enters_of Try.func125 (by kernel_rfl) (by kernel_rfl)) ?_
  rintro ⟨c, xs, d, ax⟩ hpre
  have hpre : xs.length ≤ 1048576 ∧ ax.length ≤ 1048576 := hpre
  by_cases ht : turnOk ax xs.length = true
  · have hin := turnOk_in ht
    have h3 : ax.length ≤ 3 := by omega
    have hcall := And.intro h3 hin.2
    conv => whnf
    repeat' (first
      | (refine aIf_t ?_; conv => whnf)
      | (refine aIf_f ?_; conv => whnf)
      | (refine fun (_ : _ ≤ maxLen) => ?_; conv => whnf)
      | (refine callG_t ?_; conv => whnf)
      | (refine And.intro (pureL_ints _ _) ?_; conv => whnf)
      | (refine sShapeOk_call ?_; conv => whnf)
      | (refine l1Turn_call (by assumption) ?_; conv => whnf)
      | (refine sTurnOk_call ?_; conv => whnf)
      | (refine aIf_tt (by assumption) ?_; conv => whnf)
      | refine aIf_eqf ?_
      | refine aIf_not ?_
      | (refine aIf_in (fun _ => ?_) (fun _ => ?_) <;> conv => whnf))
    all_goals (first
      | (rename_i h; rw [ht] at h; exact Bool.noConfusion h)
      | exact ts_end (tsL_t (by assumption) ht) rfl rfl rfl rfl
      | exact ts_end (tsL_f1 (by assumption)) rfl rfl rfl rfl)
  · have ht : turnOk ax xs.length = false := by simpa using ht
    conv => whnf
    repeat' (first
      | (refine aIf_t ?_; conv => whnf)
      | (refine aIf_f ?_; conv => whnf)
      | (refine fun (_ : _ ≤ maxLen) => ?_; conv => whnf)
      | (refine callG_t ?_; conv => whnf)
      | (refine And.intro (pureL_ints _ _) ?_; conv => whnf)
      | (refine sShapeOk_call ?_; conv => whnf)
      | (refine sTurnOk_call ?_; conv => whnf)
      | (refine aIf_ff (by assumption) ?_; conv => whnf)
      | refine aIf_eqf ?_
      | refine aIf_not ?_
      | (refine aIf_in (fun _ => ?_) (fun _ => ?_) <;> conv => whnf))
    all_goals (first
      | (rename_i h; rw [ht] at h; exact Bool.noConfusion h)
      | exact ts_end (tsL_f2 ht) rfl rfl rfl rfl)

theorem iTurnShape_call {c d : Nat} {xs ax : List Int} {env : List AV} {rows : List Row} {ctr low : Nat} {k : AV → St → Prop} (hpre : xs.length ≤ 1048576 ∧ ax.length ≤ 1048576) (hk : k (.tup [.ref rows.length ctr 0 (tsL xs ax).length, .bool (tsOk xs ax)]) ⟨env, rows ++ [⟨ctr, 3, 1, (tsL xs ax).map (.int .i64)⟩], ctr + 1, low⟩) :
    CallB Try.prog 157 ⟨env, rows, ctr, low⟩ [.sl c xs.length (xs.map (.int .i64)), .sl d ax.length (ax.map (.int .i64))] k := callLB_in iTurnShape_sound (c, xs, d, ax) hpre hk
theorem sTurnShape_call {c d : Nat} {xs ax : List Int} {env : List AV} {rows : List Row} {ctr low : Nat} {k : AV → St → Prop} (hpre : xs.length ≤ 1048576 ∧ ax.length ≤ 1048576) (hk : k (.tup [.ref rows.length ctr 0 (tsL xs ax).length, .bool (tsOk xs ax)]) ⟨env, rows ++ [⟨ctr, 3, 1, (tsL xs ax).map (.int .i64)⟩], ctr + 1, low⟩) :
    CallB Try.prog 125 ⟨env, rows, ctr, low⟩ [.sl c xs.length (xs.map (.int .i64)), .sl d ax.length (ax.map (.int .i64))] k := callLB_in sTurnShape_sound (c, xs, d, ax) hpre hk
end Go.Proofs.Ytilimbdpdpfalaa

/- Facts of the program that every law's claim wants. -/
namespace Go.Proofs.Ytilimbdpdpfalaa
set_option maxRecDepth 20000
open Go.RowKit Go.Am Go.WideShapes Go.ChangeShapes

theorem own_ : ownKnob Try.prog.godebug = none := by kernel_rfl
theorem laid_ : laidOutB Try.prog = true := by kernel_rfl
theorem uInts : Try.prog.underlying 46 = some (.slice 3) := by kernel_rfl
theorem uBytes : Try.prog.underlying 79 = some (.slice 5) := by kernel_rfl
theorem uByte : Try.prog.underlying 5 = some (.int .u8) := by kernel_rfl
theorem uInt : Try.prog.underlying 3 = some (.int .i64) := by kernel_rfl

end Go.Proofs.Ytilimbdpdpfalaa

/- Facts of the program about tensors. -/
namespace Go.Proofs.Ytilimbdpdpfalaa
set_option maxRecDepth 20000
open Go.RowKit Go.Am Go.WideShapes Go.ChangeShapes
theorem argT {av : AV} (h : ArgR Try.prog 99 av) : ∃ xs zs : List Int, av = .agg [.sl 1 xs.length (xs.map (.int .i64)), .sl 1 zs.length (zs.map (.int .i64))] := by
  obtain ⟨xs, zs, e, _, _⟩ := argRPair (t1 := 46) (e := 3) (by kernel_rfl) uInts uInt (by kernel_rfl) (by kernel_rfl) h
  exact ⟨xs, zs, e⟩
theorem argL {av : AV} (h : ArgR Try.prog 46 av) : ∃ zs : List Int, av = .sl 1 zs.length (zs.map (.int .i64)) := by
  obtain ⟨zs, e, _⟩ := argRInts uInts uInt h
  exact ⟨zs, e⟩
theorem argI {av : AV} (h : ArgR Try.prog 3 av) : ∃ n : Int, av = .int .i64 n ∧ (Lit.int .i64 n).wf = true := argRInt uInt h
theorem avs4 {avs : List AV} {p : Nat → AV → Prop} (hl : avs.length = 4) (h : ∀ j av, avs[j]? = some av → p j av) : ∃ a b c d, avs = [a, b, c, d] ∧ p 0 a ∧ p 1 b ∧ p 2 c ∧ p 3 d := by
  match avs, hl with
  | [a, b, c, d], _ => exact ⟨a, b, c, d, rfl, h 0 a rfl, h 1 b rfl, h 2 c rfl, h 3 d rfl⟩
end Go.Proofs.Ytilimbdpdpfalaa
