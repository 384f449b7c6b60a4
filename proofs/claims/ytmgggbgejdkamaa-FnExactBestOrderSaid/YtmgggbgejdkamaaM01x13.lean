import Derived.Test.YtmgggbgejdkamaaM01x12
import Derived.Test.YtmgggbgejdkamaaM01x10
import Derived.Test.YtmgggbgejdkamaaM01x11
import Derived.Handed
import Derived.JoinedOf
import Derived.Test.YtmgggbgejdkamaaRows
/- Marks: markIntS, heldIntS. -/
namespace Go.Proofs.Ytmgggbgejdkamaa
set_option maxRecDepth 20000
open Go.RowKit Go.Am
attribute [local irreducible] aPlan aGet aIf aLoop aCall RetB NextB CallB CallG aCut aSet

def marks (m : Int) (n : Nat) : List Int := (List.range n).map fun (j : Nat) => m + (j : Int)
theorem marks_length (m : Int) (n : Nat) : (marks m n).length = n := by simp [marks]
theorem marks_getD {m : Int} {n j : Nat} (h : j < n) : (marks m n).getD j 0 = m + j := by
  simp [marks, List.getD, List.getElem?_map, List.getElem?_range h]

def sMark : CSpec := fnM (ι := List Int × Int) 3 (fun x => x.1) (fun x => x.2) (fun x => x.1.length ≤ 1048576 ∧ 0 ≤ x.2 ∧ x.2 ≤ 1000000000000) (fun x => x.2 + x.1.length) (fun x => marks x.2 x.1.length)
set_option maxRecDepth 10000 in
theorem mark_sound : Sound Try.prog 56 sMark := by
  refine sound_of Try.func56 rfl (enters_of Try.func56 (by kernel_rfl) (by kernel_rfl)) ?_
  rintro ⟨zs, m⟩ hpre
  have hpre : zs.length ≤ 1048576 ∧ 0 ≤ m ∧ m ≤ 1000000000000 := hpre
  conv => whnf
  repeat' (first
    | (refine append_same ?_; conv => whnf))
  refine loop_in (ι := Nat × List Int) (fun | (k, ws) => ⟨[.ref 0 0 0 zs.length, .int .i64 (m + k), .un, .un, .int .i64 0, .int .i64 k, .un, .un, .un, .un, .un, .un, .un, .un, .un, .un, .un, .un, .un], [⟨0, 3, 1, ws.map (.int .i64)⟩], 1, 1⟩)
    (fun x => x.1 ≤ zs.length ∧ x.2.length = zs.length ∧ ∀ j, j < x.1 → x.2.getD j 0 = m + j) (fun x => zs.length - x.1) (0, zs) ⟨Nat.zero_le _, rfl, fun j hj => absurd hj (Nat.not_lt_zero _)⟩ ?_ ?_
  · repeat' (first
      | exact trivial
      | exact rfl
      | exact le_ints rfl
      | refine And.intro ?_ ?_
      | exact Nat.le_of_ble_eq_true rfl
      | exact int_eq (Int.add_zero _).symm)
  · rintro ⟨k, ws⟩ ⟨hk, hl, hall⟩
    have hk : k ≤ zs.length := hk
    have hl : ws.length = zs.length := hl
    have hall : ∀ j, j < k → ws.getD j 0 = m + j := hall
    conv => whnf
    repeat' (first
      | (refine fun (_ : _ ≤ maxLen) => ?_; conv => whnf)
      | (refine And.intro (by omega) ?_; conv => whnf)
      | (refine append_same ?_; conv => whnf)
      | (refine And.intro rfl (And.intro rfl (And.intro (by first | omega | (rw [List.length_map]; omega)) ?_)); conv => whnf)
      | (refine set_nat ?_ (by omega); conv => whnf)
      | (refine aIf_dec (fun _ => ?_) (fun _ => ?_) <;> conv => whnf))
    · refine next_in (k + 1, ws.set k (m + k)) (show zs.length - (k + 1) < zs.length - k by omega) ⟨(show k + 1 ≤ zs.length by omega), by simpa using hl, fun j hj => ?_⟩ ?_
      · have hj : j < k + 1 := hj
        show (ws.set k (m + k)).getD j 0 = _
        rw [getD_set (by omega)]
        split
        · rename_i e; rw [e]
        · exact hall j (by omega)
      · repeat' (first
          | exact trivial
          | exact rfl
          | exact le_ints rfl
          | refine And.intro ?_ ?_
          | exact Nat.le_of_ble_eq_true rfl
          | exact int_eq (by rw [IntWalk.i64_in _ (by omega)] <;> omega))
    · have e : k = zs.length := by omega
      subst e
      have e : ws = marks m zs.length := getD_ext (by rw [marks_length, hl]) fun j hj => by
        rw [marks_length] at hj
        rw [hall j hj, marks_getD hj]
      subst e
      exact retM (zs := zs) rfl
theorem mark_call {zs : List Int} {m : Int} {env : List AV} {rows : List Row} {ctr low τ ver n : Nat} {k : AV → St → Prop} (hr : rows[τ]? = some ⟨ver, 3, 1, zs.map (.int .i64)⟩) (hn : n = zs.length) (hpre : zs.length ≤ 1048576 ∧ 0 ≤ m ∧ m ≤ 1000000000000)
    (hk : k (.int .i64 (m + zs.length)) ⟨env, setRows rows [τ] [(marks m zs.length).map (.int .i64)], ctr + 1, low⟩) : CallG Try.prog 56 ⟨env, rows, ctr, low⟩ [.ref τ ver 0 n, .int .i64 m] k :=
  callM_in mark_sound (zs, m) hpre hr hn rfl hk

def sHeld : CSpec := fnS (ι := Nat × List Int × Int) (fun | (c, zs, m) => [.sl c zs.length (zs.map (.int .i64)), .int .i64 m]) (fun | (_, zs, m) => zs.length ≤ 1048576 ∧ 0 ≤ m ∧ m ≤ 1000000000000) (fun | (_, zs, m) => .int .i64 (if zs = marks m zs.length then m + zs.length else -1))
set_option maxRecDepth 10000 in
theorem held_sound : Sound Try.prog 57 sHeld := by
  refine sound_of Try.func57 rfl (enters_of Try.func57 (by kernel_rfl) (by kernel_rfl)) ?_
  rintro ⟨c, zs, m⟩ hpre
  have hpre : zs.length ≤ 1048576 ∧ 0 ≤ m ∧ m ≤ 1000000000000 := hpre
  conv => whnf
  repeat' (first
    | (refine append_same ?_; conv => whnf))
  refine loop_in (ι := Nat) (fun k => ⟨[.sl c zs.length (zs.map (.int .i64)), .int .i64 (m + k), .un, .un, .int .i64 0, .int .i64 k, .un, .un, .un, .un, .un, .un, .un, .un, .un, .un, .un, .un, .un, .un, .un], [], 1, 0⟩)
    (fun k => k ≤ zs.length ∧ ∀ j, j < k → zs.getD j 0 = m + j) (fun k => zs.length - k) 0 ⟨Nat.zero_le _, fun j hj => absurd hj (Nat.not_lt_zero _)⟩ ?_ ?_
  · repeat' (first
      | exact trivial
      | exact rfl
      | exact pureL_ints _ _
      | refine And.intro ?_ ?_
      | exact Nat.le_of_ble_eq_true rfl
      | exact int_eq (by omega))
  · rintro k ⟨hk, hall⟩
    conv => whnf
    repeat' (first
      | (refine fun (_ : _ ≤ maxLen) => ?_; conv => whnf)
      | (refine get_nat (by omega) ?_; conv => whnf)
      | (refine And.intro (by omega) ?_; conv => whnf)
      | (refine append_same ?_; conv => whnf)
      | refine aIf_not ?_
      | (refine aIf_dec (fun _ => ?_) (fun _ => ?_) <;> conv => whnf))
    · refine next_in (k + 1) (show zs.length - (k + 1) < zs.length - k by omega) ⟨by omega, fun j hj => ?_⟩ ?_
      · rcases Nat.lt_succ_iff_lt_or_eq.1 hj with h1 | rfl
        · exact hall j h1
        · assumption
      · repeat' (first
          | exact trivial
          | exact rfl
          | exact pureL_ints _ _
          | refine And.intro ?_ ?_
          | exact Nat.le_of_ble_eq_true rfl
          | exact int_eq (by rw [IntWalk.i64_in _ (by omega)] <;> omega))
    · rename_i hne
      refine retS rfl (int_eq ?_)
      rw [if_neg]
      intro e
      apply hne
      have : zs.getD k 0 = (marks m zs.length).getD k 0 := congrArg (fun l => l.getD k 0) e
      rw [this, marks_getD (by omega)]
    · have e : k = zs.length := by omega
      subst e
      refine retS rfl (int_eq ?_)
      rw [if_pos]
      exact getD_ext (by rw [marks_length]) fun j hj => by
        rw [marks_length] at hj
        rw [hall j hj, marks_getD hj]
theorem held_call {c : Nat} {zs : List Int} {m : Int} {env : List AV} {rows : List Row} {ctr low : Nat} {k : AV → St → Prop} (hpre : zs.length ≤ 1048576 ∧ 0 ≤ m ∧ m ≤ 1000000000000) (h : k (.int .i64 (if zs = marks m zs.length then m + zs.length else -1)) ⟨env, rows, ctr + 1, low⟩) :
    CallB Try.prog 57 ⟨env, rows, ctr, low⟩ [.sl c zs.length (zs.map (.int .i64)), .int .i64 m] k := callS_in held_sound (c, zs, m) hpre rfl h
/-- What was marked holds its marks. -/
theorem held_marks_call {c n' : Nat} {n : Nat} {m : Int} {env : List AV} {rows : List Row} {ctr low : Nat} {k : AV → St → Prop} (hn : n' = n) (hpre : n ≤ 1048576 ∧ 0 ≤ m ∧ m ≤ 1000000000000) (h : k (.int .i64 (m + n)) ⟨env, rows, ctr + 1, low⟩) :
    CallB Try.prog 57 ⟨env, rows, ctr, low⟩ [.sl c n' ((marks m n).map (.int .i64)), .int .i64 m] k := by
  subst hn
  have := held_call (c := c) (zs := marks m n') (m := m) (env := env) (rows := rows) (ctr := ctr) (low := low) (k := k) (by rw [marks_length]; exact hpre) (by rw [marks_length, if_pos rfl]; exact h)
  rwa [marks_length] at this
theorem cut_marks {m : Int} {n : Nat} {k : List AV → Prop} {f : Nat} (hk : k ((marks m n).map (.int .i64))) : aCut (f + 1) ((marks m n).map (.int .i64)) 0 (n * 1) k := cut_all (by simp [marks_length]) (scalL_ints _ _) hk
end Go.Proofs.Ytmgggbgejdkamaa

/- Chapter 2: tensors as arguments; TensorOk. -/
namespace Go.Proofs.Ytmgggbgejdkamaa
set_option maxRecDepth 20000
open Go.RowKit Go.Am
attribute [local irreducible] aPlan aGet aIf aLoop aCall RetB NextB CallB CallG aCut aSet aAppend

def numOk (z : Int) : Bool := decide (-1000000000 ≤ z ∧ z ≤ 1000000000)
def tensorOk (xs zs : List Int) : Bool := shapeOk xs && (decide ((zs.length : Int) = cntTo xs xs.length) && zs.all numOk)
theorem tensorOk_iff (xs zs : List Int) : tensorOk xs zs = true ↔ shapeOk xs = true ∧ (zs.length : Int) = cntTo xs xs.length ∧ ∀ j, j < zs.length → -1000000000 ≤ zs.getD j 0 ∧ zs.getD j 0 ≤ 1000000000 := by
  unfold tensorOk
  rw [Bool.and_eq_true, Bool.and_eq_true, all_iff, decide_eq_true_iff]
  simp only [numOk, decide_eq_true_iff]
def sTensorOk : CSpec := fnS (ι := Nat × List Int × Nat × List Int) (fun | (c, xs, d, zs) => [.agg [.sl c xs.length (xs.map (.int .i64)), .sl d zs.length (zs.map (.int .i64))]]) (fun _ => True) (fun | (_, xs, _, zs) => .bool (tensorOk xs zs))

theorem tensorOk_t {xs zs : List Int} (h1 : shapeOk xs = true) (h2 : (zs.length : Int) = cntTo xs xs.length) (h3 : ∀ j, j < zs.length → -1000000000 ≤ zs.getD j 0 ∧ zs.getD j 0 ≤ 1000000000) : tensorOk xs zs = true := (tensorOk_iff _ _).2 ⟨h1, h2, h3⟩
theorem tensorOk_f1 {xs zs : List Int} (h : shapeOk xs = false) : tensorOk xs zs = false := by unfold tensorOk; rw [h]; rfl
theorem tensorOk_f2 {xs zs : List Int} (h : (zs.length : Int) ≠ cntTo xs xs.length) : tensorOk xs zs = false := by
  rw [← Bool.not_eq_true, tensorOk_iff]; exact fun h' => h h'.2.1
theorem tensorOk_f3 {xs zs : List Int} {k : Nat} (hk : k < zs.length) (h : ¬ (-1000000000 ≤ zs.getD k 0 ∧ zs.getD k 0 ≤ 1000000000)) : tensorOk xs zs = false := by
  rw [← Bool.not_eq_true, tensorOk_iff]; exact fun h' => h (h'.2.2 k hk)
theorem num_next {zs : List Int} {k : Nat} (h : ∀ j, j < k → -1000000000 ≤ zs.getD j 0 ∧ zs.getD j 0 ≤ 1000000000) (h' : -1000000000 ≤ zs.getD k 0 ∧ zs.getD k 0 ≤ 1000000000) : ∀ j, j < k + 1 → -1000000000 ≤ zs.getD j 0 ∧ zs.getD j 0 ≤ 1000000000 := fun j hj => by
  rcases Nat.lt_succ_iff_lt_or_eq.1 hj with h1 | rfl
  · exact h j h1
  · exact h'

set_option maxRecDepth 10000 in
theorem sTensorOk_sound : Sound Try.prog 103 sTensorOk := by
  refine sound_of Try.func103 rfl (enters_of Try.func103 (by kernel_rfl) (by kernel_rfl)) ?_
  rintro ⟨c, xs, d, zs⟩ -
  conv => whnf
  repeat' (first
    | (refine plan_in (id := 1) [0, 1, 2, 3, 4, 5, 6, 7, 8, 9, 10, 11, 12] (by kernel_rfl) (by kernel_rfl) ?_; conv => whnf)
    | (refine aIf_t ?_; conv => whnf)
    | (refine aIf_f ?_; conv => whnf)
    | (refine fun (_ : _ ≤ maxLen) => ?_; conv => whnf)
    | (refine aGet_in rfl ?_; conv => whnf)
    | (refine And.intro rfl (And.intro (List.cons_ne_nil _ _) ?_); conv => whnf)
    | (refine append_same ?_; conv => whnf)
    | (refine And.intro (pureL_ints _ _) ?_; conv => whnf)
    | (refine sShapeOk_call ?_; conv => whnf)
    | (refine l1Count_call ?_; conv => whnf)
    | refine aIf_eqf ?_
    | refine aIf_not ?_
    | (refine aIf_dec (fun _ => ?_) (fun _ => ?_) <;> conv => whnf)
    | (refine aIf_in (fun _ => ?_) (fun _ => ?_) <;> conv => whnf))
  · rename_i h1 _ h2
    refine loop_in (ι := Nat) (fun k => ⟨[.un, .ptr 0 1 0, .bool false, .int .i64 k, .un, .un, .un, .un, .un, .un, .un, .un, .un, .un, .un, .un, .un, .un, .un, .un, .un, .un, .un, .un, .un, .un, .un, .un, .un, .un, .un], [⟨1, 42, 2, [.sl c xs.length (xs.map (.int .i64)), .sl d zs.length (zs.map (.int .i64))]⟩], 4, 0⟩)
      (fun k => k ≤ zs.length ∧ ∀ j, j < k → -1000000000 ≤ zs.getD j 0 ∧ zs.getD j 0 ≤ 1000000000) (fun k => zs.length - k) 0 ⟨Nat.zero_le _, fun j hj => absurd hj (Nat.not_lt_zero _)⟩ ?_ ?_
    · repeat' (first
        | exact trivial
        | exact rfl
        | exact Or.inl (And.intro (pureL_pair _ _ _ _ _ _) rfl)
        | refine And.intro ?_ ?_
        | exact Nat.le_of_ble_eq_true rfl)
    · rintro k ⟨hk, hall⟩
      conv => whnf
      repeat' (first
        | (refine plan_in (id := 1) [0, 1, 2, 3, 4, 5, 6, 7, 8, 9, 10, 11, 12] (by kernel_rfl) (by kernel_rfl) ?_; conv => whnf)
        | (refine fun (_ : _ ≤ maxLen) => ?_; conv => whnf)
        | (refine get_nat (by omega) ?_; conv => whnf)
        | (refine aGet_in rfl ?_; conv => whnf)
        | (refine And.intro (by omega) ?_; conv => whnf)
        | (refine callG_t ?_; conv => whnf)
        | (refine append_same ?_; conv => whnf)
        | (refine in_call ?_; conv => whnf)
        | refine aIf_not ?_
        | (refine aIf_dec (fun _ => ?_) (fun _ => ?_) <;> conv => whnf))
      · rename_i h3 h4
        refine next_in (k + 1) (by omega) ⟨by omega, num_next hall h4⟩ ?_
        have hmax : maxLen = 9223372036854775807 := rfl
        repeat' (first
          | exact trivial
          | exact rfl
          | exact Or.inl (And.intro (pureL_pair _ _ _ _ _ _) rfl)
          | refine And.intro ?_ ?_
          | exact Nat.le_of_ble_eq_true rfl
          | exact int_eq (by rw [IntWalk.i64_in _ (by omega)] <;> omega))
      · rename_i h3 h4
        exact retS rfl (congrArg AV.bool (tensorOk_f3 (k := k) (by omega) h4).symm)
      · exact retS rfl (congrArg AV.bool (tensorOk_t h1 h2 (fun j hj => hall j (by omega))).symm)
  · rename_i h
    exact retS rfl (congrArg AV.bool (tensorOk_f2 h).symm)
  · rename_i h
    exact retS rfl (congrArg AV.bool (tensorOk_f1 h).symm)

theorem cnt_count {xs : List Int} (h : shapeOk xs = true) : countOf xs = cntTo xs xs.length := if_pos h
theorem btw_num (zs : List Int) : btw zs (-1000000000) 1000000000 = zs.all numOk := rfl
set_option maxRecDepth 10000 in
theorem iTensorOk_sound : Sound Try.prog 107 sTensorOk := by
  refine sound_of Try.func107 rfl (enters_of Try.func107 (by kernel_rfl) (by kernel_rfl)) ?_
  rintro ⟨c, xs, d, zs⟩ -
  by_cases h : shapeOk xs = true ∧ (zs.length : Int) = cntTo xs xs.length
  · obtain ⟨h1, h2⟩ := h
    have hc := cnt_count h1
    have e : tensorOk xs zs = btw zs (-1000000000) 1000000000 := by unfold tensorOk; rw [h1, decide_eq_true h2, Bool.true_and, Bool.true_and, btw_num]
    conv => whnf
    repeat' (first
      | (refine plan_in (id := 1) [0, 1, 2, 3, 4, 5, 6, 7, 8, 9, 10, 11, 12] (by kernel_rfl) (by kernel_rfl) ?_; conv => whnf)
      | (refine aIf_t ?_; conv => whnf)
      | (refine aIf_f ?_; conv => whnf)
      | (refine fun (_ : _ ≤ maxLen) => ?_; conv => whnf)
      | (refine aGet_in rfl ?_; conv => whnf)
      | (refine And.intro rfl (And.intro (List.cons_ne_nil _ _) ?_); conv => whnf)
      | (refine allBetween_call trivial ?_; conv => whnf)
      | (refine append_same ?_; conv => whnf)
      | (refine And.intro (pureL_ints _ _) ?_; conv => whnf)
      | (refine iCountOf_call ?_; conv => whnf)
      | refine aIf_eqt ?_
      | (refine aIf_dec (fun _ => ?_) (fun _ => ?_) <;> conv => whnf))
    all_goals (first | (exfalso; omega) | exact retS rfl (congrArg AV.bool e.symm))
  · have e : tensorOk xs zs = false := by
      rw [← Bool.not_eq_true, tensorOk_iff]; exact fun h' => h ⟨h'.1, h'.2.1⟩
    have hn : (zs.length : Int) ≠ countOf xs := by
      by_cases h1 : shapeOk xs = true
      · rw [cnt_count h1]; exact fun h' => h ⟨h1, h'⟩
      · have : countOf xs = -1 := if_neg h1
        rw [this]; omega
    conv => whnf
    repeat' (first
      | (refine plan_in (id := 1) [0, 1, 2, 3, 4, 5, 6, 7, 8, 9, 10, 11, 12] (by kernel_rfl) (by kernel_rfl) ?_; conv => whnf)
      | (refine aIf_t ?_; conv => whnf)
      | (refine aIf_f ?_; conv => whnf)
      | (refine fun (_ : _ ≤ maxLen) => ?_; conv => whnf)
      | (refine aGet_in rfl ?_; conv => whnf)
      | (refine And.intro (by omega) ?_; conv => whnf)
      | (refine And.intro rfl (And.intro (List.cons_ne_nil _ _) ?_); conv => whnf)
      | (refine allBetween_call trivial ?_; conv => whnf)
      | (refine append_same ?_; conv => whnf)
      | (refine And.intro (pureL_ints _ _) ?_; conv => whnf)
      | (refine iCountOf_call ?_; conv => whnf)
      | refine aIf_eqt ?_
      | (refine aIf_dec (fun _ => ?_) (fun _ => ?_) <;> conv => whnf))
    all_goals (first | (exfalso; omega) | exact retS rfl (congrArg AV.bool e.symm))
theorem sTensorOk_call {c d : Nat} {xs zs : List Int} {env : List AV} {rows : List Row} {ctr low : Nat} {k : AV → St → Prop} (h : k (.bool (tensorOk xs zs)) ⟨env, rows, ctr + 1, low⟩) :
    CallB Try.prog 103 ⟨env, rows, ctr, low⟩ [.agg [.sl c xs.length (xs.map (.int .i64)), .sl d zs.length (zs.map (.int .i64))]] k := callS_in sTensorOk_sound (c, xs, d, zs) trivial rfl h
theorem iTensorOk_call {c d : Nat} {xs zs : List Int} {env : List AV} {rows : List Row} {ctr low : Nat} {k : AV → St → Prop} (h : k (.bool (tensorOk xs zs)) ⟨env, rows, ctr + 1, low⟩) :
    CallB Try.prog 107 ⟨env, rows, ctr, low⟩ [.agg [.sl c xs.length (xs.map (.int .i64)), .sl d zs.length (zs.map (.int .i64))]] k := callS_in iTensorOk_sound (c, xs, d, zs) trivial rfl h
end Go.Proofs.Ytmgggbgejdkamaa

/- Chapter 2: what the laws do with tensors. -/
namespace Go.Proofs.Ytmgggbgejdkamaa
set_option maxRecDepth 20000
open Go.RowKit Go.Am
attribute [local irreducible] aPlan aGet aIf aLoop aCall RetB NextB CallB CallG aCut aSet aAppend

/-- What is left behind lists: at least nought, then the lists are short. -/
abbrev leftOf (zs : List Int) (m : Int) (r : AV) (news : List Row) : Prop := ∃ n : Int, r = .int .i64 n ∧ news = [] ∧ (n < 0 ∨ (0 ≤ n ∧ n = m - zs.length))
set_option maxRecDepth 10000 in
theorem szIntS_sound : Sound Try.prog 63 (fnP (ι := Nat × List Int × Int) (fun | (c, zs, m) => [.sl c zs.length (zs.map (.int .i64)), .int .i64 m]) (fun | (_, _, m) => 0 ≤ m ∧ m ≤ 1048576) (fun | (_, zs, m) => leftOf zs m)) := by
  refine sound_of Try.func63 rfl (enters_of Try.func63 (by kernel_rfl) (by kernel_rfl)) ?_
  rintro ⟨c, zs, m⟩ hpre
  have hpre : 0 ≤ m ∧ m ≤ 1048576 := hpre
  have hmax : maxLen = 9223372036854775807 := rfl
  conv => whnf
  repeat' (first
    | (refine fun (_ : _ ≤ maxLen) => ?_; conv => whnf)
    | (refine append_same ?_; conv => whnf)
    | (refine aIf_dec (fun _ => ?_) (fun _ => ?_) <;> conv => whnf))
  · exact retP1 (L := []) (by simp) rfl rfl ⟨_, rfl, rfl, .inl (by decide)⟩
  · rename_i h1 h2
    rw [IntWalk.i64_in (m - zs.length) (by omega)] at h2
    exact retP1 (L := []) (by simp) rfl rfl ⟨_, rfl, rfl, .inr (by rw [IntWalk.i64_in _ (by omega)]; omega)⟩
theorem szIntS_call {c : Nat} {zs : List Int} {m : Int} {env : List AV} {rows : List Row} {ctr low : Nat} {k : AV → St → Prop} (hpre : 0 ≤ m ∧ m ≤ 1048576) (hk : ∀ n : Int, (n < 0 ∨ (0 ≤ n ∧ n = m - zs.length)) → k (.int .i64 n) ⟨env, rows, ctr + 1, low⟩) :
    CallB Try.prog 63 ⟨env, rows, ctr, low⟩ [.sl c zs.length (zs.map (.int .i64)), .int .i64 m] k := callP_in szIntS_sound (c, zs, m) hpre (by
  rintro r news ⟨n, rfl, rfl, h⟩
  simpa [AV.back, St.news] using hk n h)

abbrev leftOf2 (xs zs : List Int) (m : Int) (r : AV) (news : List Row) : Prop := ∃ n : Int, r = .int .i64 n ∧ news = [] ∧ (n < 0 ∨ (0 ≤ n ∧ n = m - xs.length - zs.length))
set_option maxRecDepth 10000 in
theorem szTensor_sound : Sound Try.prog 75 (fnP (ι := Nat × List Int × Nat × List Int × Int) (fun | (c, xs, d, zs, m) => [.agg [.sl c xs.length (xs.map (.int .i64)), .sl d zs.length (zs.map (.int .i64))], .int .i64 m]) (fun | (_, _, _, _, m) => 0 ≤ m ∧ m ≤ 1048576) (fun | (_, xs, _, zs, m) => leftOf2 xs zs m)) := by
  refine sound_of Try.func75 rfl (enters_of Try.func75 (by kernel_rfl) (by kernel_rfl)) ?_
  rintro ⟨c, xs, d, zs, m⟩ hpre
  have hpre : 0 ≤ m ∧ m ≤ 1048576 := hpre
  conv => whnf
  repeat' (first
    | (refine aGet_in rfl ?_; conv => whnf)
    | (refine And.intro rfl (And.intro (List.cons_ne_nil _ _) ?_); conv => whnf)
    | (refine callG_t ?_; conv => whnf)
    | (refine szIntS_call (by omega) (fun _ _ => ?_); conv => whnf)
    | (refine append_same ?_; conv => whnf)
    | (refine And.intro (pureL_ints _ _) ?_; conv => whnf)
    | (refine aIf_dec (fun _ => ?_) (fun _ => ?_) <;> conv => whnf))
  · exact retP1 (L := []) (by simp) rfl rfl ⟨_, rfl, rfl, .inl (by decide)⟩
  · exact retP1 (L := []) (by simp) rfl rfl ⟨_, rfl, rfl, .inl (by decide)⟩
  · rename_i n1 h1 h2 n2 h3 h4
    exact retP1 (L := []) (by simp) rfl rfl ⟨_, rfl, rfl, .inr (by omega)⟩
theorem szTensor_call {c d : Nat} {xs zs : List Int} {m : Int} {env : List AV} {rows : List Row} {ctr low : Nat} {k : AV → St → Prop} (hpre : 0 ≤ m ∧ m ≤ 1048576) (hk : ∀ n : Int, (n < 0 ∨ (0 ≤ n ∧ n = m - xs.length - zs.length)) → k (.int .i64 n) ⟨env, rows, ctr + 1, low⟩) :
    CallB Try.prog 75 ⟨env, rows, ctr, low⟩ [.agg [.sl c xs.length (xs.map (.int .i64)), .sl d zs.length (zs.map (.int .i64))], .int .i64 m] k := callP_in szTensor_sound (c, xs, d, zs, m) hpre (by
  rintro r news ⟨n, rfl, rfl, h⟩
  simpa [AV.back, St.news] using hk n h)

set_option maxRecDepth 10000 in
theorem toTensor_sound : Sound Try.prog 79 (fnT (ι := Nat × List Int × Nat × List Int) 3 (fun | (c, xs, d, zs) => [.agg [.sl c xs.length (xs.map (.int .i64)), .sl d zs.length (zs.map (.int .i64))]]) (fun | (_, xs, _, zs) => xs.length ≤ 1048576 ∧ zs.length ≤ 1048576) (fun | (_, xs, _, _) => xs) (fun | (_, _, _, zs) => zs)) := by
  refine sound_of Try.func79 rfl (enters_of Try.func79 (by kernel_rfl) (by kernel_rfl)) ?_
  rintro ⟨c, xs, d, zs⟩ hpre
  have hpre : xs.length ≤ 1048576 ∧ zs.length ≤ 1048576 := hpre
  conv => whnf
  repeat' (first
    | (refine aGet_in rfl ?_; conv => whnf)
    | (refine load_same ?_; conv => whnf)
    | (refine And.intro rfl (And.intro (List.cons_ne_nil _ _) ?_); conv => whnf)
    | (refine And.intro (Nat.le_of_ble_eq_true rfl) ?_; conv => whnf)
    | (refine callG_t ?_; conv => whnf)
    | (refine append_same ?_; conv => whnf)
    | (refine takeN_in ?_; conv => whnf)
    | (refine And.intro (pureL_ints _ _) ?_; conv => whnf)
    | (refine toIntS_call (by omega) ?_; conv => whnf)
    | (refine set_force ?_; conv => whnf)
    | (refine And.intro (by kernel_rfl) ?_; conv => whnf))
  refine retT ?_ ?_ ?_ ?_ ?_
  all_goals (first | exact rfl | decide)
theorem toTensor_call {c d : Nat} {xs zs : List Int} {env : List AV} {rows : List Row} {ctr low : Nat} {k : AV → St → Prop} (hpre : xs.length ≤ 1048576 ∧ zs.length ≤ 1048576)
    (hk : k (.agg [.ref rows.length ctr 0 xs.length, .ref (rows.length + 1) ctr 0 zs.length]) ⟨env, rows ++ [⟨ctr, 3, 1, xs.map (.int .i64)⟩, ⟨ctr, 3, 1, zs.map (.int .i64)⟩], ctr + 1, low⟩) :
    CallB Try.prog 79 ⟨env, rows, ctr, low⟩ [.agg [.sl c xs.length (xs.map (.int .i64)), .sl d zs.length (zs.map (.int .i64))]] k := callT_in toTensor_sound (c, xs, d, zs) hpre hk

set_option maxRecDepth 10000 in
theorem eqTensor_sound : Sound Try.prog 31 (fnS (ι := (Nat × List Int × Nat × List Int) × (Nat × List Int × Nat × List Int)) (fun | ((c, xs, d, zs), (e, ys, f, ws)) => [.agg [.sl c xs.length (xs.map (.int .i64)), .sl d zs.length (zs.map (.int .i64))], .agg [.sl e ys.length (ys.map (.int .i64)), .sl f ws.length (ws.map (.int .i64))]]) (fun _ => True) (fun | ((_, xs, _, zs), (_, ys, _, ws)) => .bool (decide ((xs, zs) = (ys, ws))))) := by
  refine sound_of Try.func31 rfl (enters_of Try.func31 (by kernel_rfl) (by kernel_rfl)) ?_
  rintro ⟨⟨c, xs, d, zs⟩, ⟨e, ys, f, ws⟩⟩ -
  conv => whnf
  repeat' (first
    | (refine aGet_in rfl ?_; conv => whnf)
    | (refine And.intro rfl (And.intro (List.cons_ne_nil _ _) ?_); conv => whnf)
    | (refine callG_t ?_; conv => whnf)
    | (refine append_same ?_; conv => whnf)
    | (refine And.intro (pureL_ints _ _) ?_; conv => whnf)
    | (refine eqIntS_call ?_; conv => whnf)
    | refine aIf_not ?_
    | (refine aIf_dec (fun _ => ?_) (fun _ => ?_) <;> conv => whnf))
  all_goals refine retS rfl (congrArg AV.bool ?_)
  all_goals simp_all
theorem eqTensor_call {c d e f : Nat} {xs zs ys ws : List Int} {env : List AV} {rows : List Row} {ctr low : Nat} {k : AV → St → Prop} (h : k (.bool (decide ((xs, zs) = (ys, ws)))) ⟨env, rows, ctr + 1, low⟩) :
    CallB Try.prog 31 ⟨env, rows, ctr, low⟩ [.agg [.sl c xs.length (xs.map (.int .i64)), .sl d zs.length (zs.map (.int .i64))], .agg [.sl e ys.length (ys.map (.int .i64)), .sl f ws.length (ws.map (.int .i64))]] k := callS_in eqTensor_sound ((c, xs, d, zs), (e, ys, f, ws)) trivial rfl h

def sMarkT : CSpec := fnMT (ι := List Int × List Int × Int) 3 (fun x => x.1) (fun x => x.2.1) (fun x => x.2.2) (fun x => x.1.length ≤ 1048576 ∧ x.2.1.length ≤ 1048576 ∧ 0 ≤ x.2.2 ∧ x.2.2 ≤ 100000000000) (fun x => x.2.2 + x.1.length + x.2.1.length) (fun x => marks x.2.2 x.1.length) (fun x => marks (x.2.2 + x.1.length) x.2.1.length)
set_option maxRecDepth 10000 in
theorem markTensor_sound : Sound Try.prog 35 sMarkT := by
  refine sound_of Try.func35 rfl (enters_of Try.func35 (by kernel_rfl) (by kernel_rfl)) ?_
  rintro ⟨xs, zs, m⟩ hpre
  have hpre : xs.length ≤ 1048576 ∧ zs.length ≤ 1048576 ∧ 0 ≤ m ∧ m ≤ 100000000000 := hpre
  conv => whnf
  dsimp only
  repeat' (first
    | (refine aGet_in rfl ?_; conv => whnf)
    | (refine And.intro rfl (And.intro (List.cons_ne_nil _ _) ?_); conv => whnf)
    | (refine mark_call rfl (by rfl) (by omega) ?_; conv => whnf)
    | (refine append_same ?_; conv => whnf))
  exact retMT (xs := xs) (zs := zs) rfl
theorem markTensor_call {xs zs : List Int} {m : Int} {env : List AV} {rows : List Row} {ctr low τ1 τ2 v1 v2 n1 n2 : Nat} {k : AV → St → Prop} (h1 : rows[τ1]? = some ⟨v1, 3, 1, xs.map (.int .i64)⟩) (h2 : rows[τ2]? = some ⟨v2, 3, 1, zs.map (.int .i64)⟩) (hne : τ1 ≠ τ2) (e1 : n1 = xs.length) (e2 : n2 = zs.length)
    (hpre : xs.length ≤ 1048576 ∧ zs.length ≤ 1048576 ∧ 0 ≤ m ∧ m ≤ 100000000000)
    (hk : k (.int .i64 (m + xs.length + zs.length)) ⟨env, setRows rows [τ1, τ2] [(marks m xs.length).map (.int .i64), (marks (m + xs.length) zs.length).map (.int .i64)], ctr + 1, low⟩) :
    CallG Try.prog 35 ⟨env, rows, ctr, low⟩ [.agg [.ref τ1 v1 0 n1, .ref τ2 v2 0 n2], .int .i64 m] k := callMT_in markTensor_sound (xs, zs, m) hpre h1 h2 hne e1 e2 rfl hk

/-- What was marked holds its marks. -/
def sHeldT : CSpec := fnS (ι := Nat × Nat × Nat × Nat × Int) (fun | (c, n, d, n', m) => [.agg [.sl c n ((marks m n).map (.int .i64)), .sl d n' ((marks (m + n) n').map (.int .i64))], .int .i64 m]) (fun | (_, n, _, n', m) => n ≤ 1048576 ∧ n' ≤ 1048576 ∧ 0 ≤ m ∧ m ≤ 100000000000) (fun | (_, n, _, n', m) => .int .i64 (m + n + n'))
set_option maxRecDepth 10000 in
theorem heldTensor_sound : Sound Try.prog 36 sHeldT := by
  refine sound_of Try.func36 rfl (enters_of Try.func36 (by kernel_rfl) (by kernel_rfl)) ?_
  rintro ⟨c, n, d, n', m⟩ hpre
  have hpre : n ≤ 1048576 ∧ n' ≤ 1048576 ∧ 0 ≤ m ∧ m ≤ 100000000000 := hpre
  conv => whnf
  repeat' (first
    | (refine aGet_in rfl ?_; conv => whnf)
    | (refine And.intro rfl (And.intro (List.cons_ne_nil _ _) ?_); conv => whnf)
    | (refine callG_t ?_; conv => whnf)
    | (refine append_same ?_; conv => whnf)
    | (refine And.intro (pureL_ints _ _) ?_; conv => whnf)
    | (refine held_marks_call rfl (by omega) ?_; conv => whnf)
    | (refine aIf_dec (fun _ => ?_) (fun _ => ?_) <;> conv => whnf))
  all_goals (first | (exfalso; omega) | skip)
  exact retS rfl rfl
theorem heldTensor_call {c d n n' k1 k2 : Nat} {m : Int} {env : List AV} {rows : List Row} {ctr low : Nat} {k : AV → St → Prop} (e1 : k1 = n) (e2 : k2 = n') (hpre : n ≤ 1048576 ∧ n' ≤ 1048576 ∧ 0 ≤ m ∧ m ≤ 100000000000) (h : k (.int .i64 (m + n + n')) ⟨env, rows, ctr + 1, low⟩) :
    CallB Try.prog 36 ⟨env, rows, ctr, low⟩ [.agg [.sl c k1 ((marks m n).map (.int .i64)), .sl d k2 ((marks (m + n) n').map (.int .i64))], .int .i64 m] k := by
  subst e1; subst e2
  exact callS_in heldTensor_sound (c, k1, d, k2, m) hpre rfl h
end Go.Proofs.Ytmgggbgejdkamaa

/- Chapter 3: what the laws do with lists of lists: how long they are. -/
namespace Go.Proofs.Ytmgggbgejdkamaa
set_option maxRecDepth 20000
open Go.RowKit Go.Am
attribute [local irreducible] aPlan aGet aIf aLoop aCall RetB NextB CallB CallG aCut aSet aAppend

/-- How many numbers lists have together. -/
def tot (xss : List (List Int)) : Nat := (xss.map List.length).sum
def ntot (ns : List Nd) : Nat := (ns.map fun n => n.l.length).sum
def ttot (ts : List T2) : Nat := (ts.map fun t => t.1.length + t.2.length).sum
theorem sum_take_succ {α : Type} (f : α → Nat) (d : α) {l : List α} {k : Nat} (h : k < l.length) : ((l.take (k + 1)).map f).sum = ((l.take k).map f).sum + f (l.getD k d) := by
  rw [List.take_add_one, List.map_append, List.sum_append, getD_eq (d := d) h]
  simp
theorem sum_take_le {α : Type} (f : α → Nat) (l : List α) (k : Nat) : ((l.take k).map f).sum ≤ (l.map f).sum := by
  conv => rhs; rw [← List.take_append_drop k l]
  rw [List.map_append, List.sum_append]
  omega
theorem getD_le_sum {α : Type} (f : α → Nat) (d : α) {l : List α} {k : Nat} (h : k < l.length) : f (l.getD k d) ≤ (l.map f).sum := by
  have h1 := sum_take_succ f d h
  have h2 := sum_take_le f l (k + 1)
  omega
theorem tot_succ {xss : List (List Int)} {k : Nat} (h : k < xss.length) : tot (xss.take (k + 1)) = tot (xss.take k) + (xss.getD k []).length := sum_take_succ _ [] h
theorem ntot_succ {xss : List Nd} {k : Nat} (h : k < xss.length) : ntot (xss.take (k + 1)) = ntot (xss.take k) + (xss.getD k default).l.length := sum_take_succ (fun n : Nd => n.l.length) default h
theorem ttot_succ {xss : List T2} {k : Nat} (h : k < xss.length) : ttot (xss.take (k + 1)) = ttot (xss.take k) + ((xss.getD k ([], [])).1.length + (xss.getD k ([], [])).2.length) := sum_take_succ (fun t : T2 => t.1.length + t.2.length) ([], []) h
theorem tot_all {xss : List (List Int)} {k : Nat} (h : k = xss.length) : tot (xss.take k) = tot xss := by rw [h, List.take_length]
theorem ntot_all {xss : List Nd} {k : Nat} (h : k = xss.length) : ntot (xss.take k) = ntot xss := by rw [h, List.take_length]
theorem ttot_all {xss : List T2} {k : Nat} (h : k = xss.length) : ttot (xss.take k) = ttot xss := by rw [h, List.take_length]

/-- What is left: so many less, if that is at least nought. -/
abbrev leftN (q : Nat) (m : Int) (r : AV) (news : List Row) : Prop := ∃ n : Int, r = .int .i64 n ∧ news = [] ∧ (n < 0 ∨ (0 ≤ n ∧ n = m - q))
set_option maxRecDepth 10000 in
theorem szIntSS_sound : Sound Try.prog 16 (fnP (ι := Nat × List (List Int) × Int) (fun | (c, xss, m) => [.sl c xss.length (xss.map (slI c)), .int .i64 m]) (fun | (_, _, m) => 0 ≤ m ∧ m ≤ 1048576) (fun | (_, xss, m) => leftN (xss.length + tot xss) m)) := by
  refine sound_of Try.func16 rfl (enters_of Try.func16 (by kernel_rfl) (by kernel_rfl)) ?_
  rintro ⟨c, xss, m⟩ hpre
  have hpre : 0 ≤ m ∧ m ≤ 1048576 := hpre
  have hmax : maxLen = 9223372036854775807 := rfl
  conv => whnf
  repeat' (first
    | (refine fun (_ : _ ≤ maxLen) => ?_; conv => whnf)
    | (refine append_same ?_; conv => whnf)
    | (refine aIf_dec (fun _ => ?_) (fun _ => ?_) <;> conv => whnf))
  · exact retP1 (L := []) (by simp) rfl rfl ⟨_, rfl, rfl, .inl (by decide)⟩
  · rename_i h0
    rw [IntWalk.i64_in (m - xss.length) (by omega)] at h0
    refine loop_u (ι := Nat × Int) [true, true, false, false, false, true, false, false, false, false, false, false, false, false, false, false, false, false, false, false, false, false, false, false, false, false, false] (fun | (k, n) => [(1, .int .i64 n), (5, .int .i64 k)]) (fun _ => []) (fun | (k, n) => k ≤ xss.length ∧ 0 ≤ n ∧ n = m - xss.length - tot (xss.take k)) (fun x => xss.length - x.1) ((0, m - xss.length)) ⟨Nat.zero_le _, by omega, by simp [tot]⟩ ?_ ?_
    · conv => whnf
      repeat' (first
        | exact trivial
        | exact rfl
        | exact pureL_ii _ _
        | refine And.intro ?_ ?_
        | exact Nat.le_of_ble_eq_true rfl
        | exact int_eq (by rw [IntWalk.i64_in _ (by omega)] <;> omega))
    · rintro ⟨k, n⟩ ⟨hk, hn, he⟩
      conv => whnf
      repeat' (first
        | (refine fun (_ : _ ≤ maxLen) => ?_; conv => whnf)
        | (refine And.intro (by omega) ?_; conv => whnf)
        | (refine callG_t ?_; conv => whnf)
        | (refine szIntS_call (by omega) (fun _ _ => ?_); conv => whnf)
        | (refine append_same ?_; conv => whnf)
        | (refine get_ii_n (by omega) ?_; conv => whnf)
        | (refine And.intro (pureL_ints _ _) ?_; conv => whnf)
        | (refine aIf_dec (fun _ => ?_) (fun _ => ?_) <;> conv => whnf))
      · exact retP1 (L := []) (by simp) rfl rfl ⟨_, rfl, rfl, .inl (by decide)⟩
      · rename_i hlt _ n' h1 h2
        have := tot_succ (xss := xss) (k := k) (by omega)
        refine next_u ((k + 1, n')) (show xss.length - (k + 1) < xss.length - k by omega) ⟨(by omega : k + 1 ≤ xss.length), (by omega : 0 ≤ n'), (by omega : n' = m - xss.length - tot (xss.take (k + 1)))⟩ ?_
        conv => whnf
        repeat' (first
          | exact trivial
          | exact rfl
          | exact pureL_ii _ _
          | refine And.intro ?_ ?_
          | exact Nat.le_of_ble_eq_true rfl
          | exact int_eq (by rw [IntWalk.i64_in _ (by omega)] <;> omega))
      · have := tot_all (xss := xss) (k := k) (by omega)
        exact retP1 (L := []) (by simp) rfl rfl ⟨_, rfl, rfl, .inr (by omega)⟩
theorem szIntSS_call {c : Nat} {xss : List (List Int)} {m : Int} {env : List AV} {rows : List Row} {ctr low : Nat} {k : AV → St → Prop} (hpre : 0 ≤ m ∧ m ≤ 1048576) (hk : ∀ q : Int, (q < 0 ∨ (0 ≤ q ∧ q = m - ((xss.length + tot xss : Nat) : Int))) → k (.int .i64 q) ⟨env, rows, ctr + 1, low⟩) :
    CallB Try.prog 16 ⟨env, rows, ctr, low⟩ [.sl c xss.length (xss.map (slI c)), .int .i64 m] k := callP_in szIntSS_sound (c, xss, m) hpre (by
  rintro r news ⟨n, rfl, rfl, h⟩
  simpa [AV.back, St.news] using hk n h)
set_option maxRecDepth 10000 in
theorem szTensorS_sound : Sound Try.prog 27 (fnP (ι := Nat × List T2 × Int) (fun | (c, xss, m) => [.sl c xss.length (xss.flatMap (tnC c)), .int .i64 m]) (fun | (_, _, m) => 0 ≤ m ∧ m ≤ 1048576) (fun | (_, xss, m) => leftN (xss.length + ttot xss) m)) := by
  refine sound_of Try.func27 rfl (enters_of Try.func27 (by kernel_rfl) (by kernel_rfl)) ?_
  rintro ⟨c, xss, m⟩ hpre
  have hpre : 0 ≤ m ∧ m ≤ 1048576 := hpre
  have hmax : maxLen = 9223372036854775807 := rfl
  conv => whnf
  repeat' (first
    | (refine fun (_ : _ ≤ maxLen) => ?_; conv => whnf)
    | (refine append_same ?_; conv => whnf)
    | (refine aIf_dec (fun _ => ?_) (fun _ => ?_) <;> conv => whnf))
  · exact retP1 (L := []) (by simp) rfl rfl ⟨_, rfl, rfl, .inl (by decide)⟩
  · rename_i h0
    rw [IntWalk.i64_in (m - xss.length) (by omega)] at h0
    refine loop_u (ι := Nat × Int) [true, true, false, false, false, true, false, false, false, false, false, false, false, false, false, false, false, false, false, false, false, false, false, false, false, false, false] (fun | (k, n) => [(1, .int .i64 n), (5, .int .i64 k)]) (fun _ => []) (fun | (k, n) => k ≤ xss.length ∧ 0 ≤ n ∧ n = m - xss.length - ttot (xss.take k)) (fun x => xss.length - x.1) ((0, m - xss.length)) ⟨Nat.zero_le _, by omega, by simp [ttot]⟩ ?_ ?_
    · conv => whnf
      repeat' (first
        | exact trivial
        | exact rfl
        | exact pureL_tn _ _
        | refine And.intro ?_ ?_
        | exact Nat.le_of_ble_eq_true rfl
        | exact int_eq (by rw [IntWalk.i64_in _ (by omega)] <;> omega))
    · rintro ⟨k, n⟩ ⟨hk, hn, he⟩
      conv => whnf
      repeat' (first
        | (refine fun (_ : _ ≤ maxLen) => ?_; conv => whnf)
        | (refine And.intro (by omega) ?_; conv => whnf)
        | (refine callG_t ?_; conv => whnf)
        | (refine szTensor_call (by omega) (fun _ _ => ?_); conv => whnf)
        | (refine append_same ?_; conv => whnf)
        | (refine part_tn_n (by omega) ?_; conv => whnf)
        | (refine And.intro (pureL_ints _ _) ?_; conv => whnf)
        | (refine aIf_dec (fun _ => ?_) (fun _ => ?_) <;> conv => whnf))
      · exact retP1 (L := []) (by simp) rfl rfl ⟨_, rfl, rfl, .inl (by decide)⟩
      · rename_i hlt _ n' h1 h2
        have := ttot_succ (xss := xss) (k := k) (by omega)
        refine next_u ((k + 1, n')) (show xss.length - (k + 1) < xss.length - k by omega) ⟨(by omega : k + 1 ≤ xss.length), (by omega : 0 ≤ n'), (by omega : n' = m - xss.length - ttot (xss.take (k + 1)))⟩ ?_
        conv => whnf
        repeat' (first
          | exact trivial
          | exact rfl
          | exact pureL_tn _ _
          | refine And.intro ?_ ?_
          | exact Nat.le_of_ble_eq_true rfl
          | exact int_eq (by rw [IntWalk.i64_in _ (by omega)] <;> omega))
      · have := ttot_all (xss := xss) (k := k) (by omega)
        exact retP1 (L := []) (by simp) rfl rfl ⟨_, rfl, rfl, .inr (by omega)⟩
theorem szTensorS_call {c : Nat} {xss : List T2} {m : Int} {env : List AV} {rows : List Row} {ctr low : Nat} {k : AV → St → Prop} (hpre : 0 ≤ m ∧ m ≤ 1048576) (hk : ∀ q : Int, (q < 0 ∨ (0 ≤ q ∧ q = m - ((xss.length + ttot xss : Nat) : Int))) → k (.int .i64 q) ⟨env, rows, ctr + 1, low⟩) :
    CallB Try.prog 27 ⟨env, rows, ctr, low⟩ [.sl c xss.length (xss.flatMap (tnC c)), .int .i64 m] k := callP_in szTensorS_sound (c, xss, m) hpre (by
  rintro r news ⟨n, rfl, rfl, h⟩
  simpa [AV.back, St.news] using hk n h)
/-- How great an expression is. -/
def eSize (xss : List (List Int)) (ns : List Nd) : Nat := xss.length + tot xss + (ns.length + ntot ns)
theorem getD_extG {α : Type} {d : α} {xs ys : List α} (hl : xs.length = ys.length) (h : ∀ j, j < ys.length → xs.getD j d = ys.getD j d) : xs = ys := by
  refine List.ext_getElem hl fun j h1 h2 => ?_
  have := h j h2
  simpa [List.getD, List.getElem?_eq_getElem h1, List.getElem?_eq_getElem h2] using this
set_option maxRecDepth 10000 in
theorem eqIntSS_sound : Sound Try.prog 22 (fnS (ι := Nat × List (List Int) × Nat × List (List Int)) (fun | (c, xss, d, yss) => [.sl c xss.length (xss.map (slI c)), .sl d yss.length (yss.map (slI d))]) (fun _ => True) (fun | (_, xss, _, yss) => .bool (decide (xss = yss)))) := by
  refine sound_of Try.func22 rfl (enters_of Try.func22 (by kernel_rfl) (by kernel_rfl)) ?_
  rintro ⟨c, xss, d, yss⟩ -
  have hmax : maxLen = 9223372036854775807 := rfl
  conv => whnf
  repeat' (first
    | (refine plan_in (id := 6) [0, 1, 2, 3, 4, 5, 6, 7, 8, 9] (by kernel_rfl) (by kernel_rfl) ?_; conv => whnf)
    | (refine fun (_ : _ ≤ maxLen) => ?_; conv => whnf)
    | (refine append_same ?_; conv => whnf)
    | refine aIf_not ?_
    | (refine aIf_dec (fun _ => ?_) (fun _ => ?_) <;> conv => whnf))
  · have hl : yss.length = xss.length := by omega
    refine loop_u (ι := Nat) [true, true, false, false, false, true, false, false, false, false, false, false, false, false, false, false, false, false, false, false, false, false, false, false, false, false, false] (fun k => [(5, .int .i64 k)]) (fun _ => []) (fun k => k ≤ xss.length ∧ ∀ j, j < k → xss.getD j [] = yss.getD j []) (fun k => xss.length - k) (0) ⟨Nat.zero_le _, fun j hj => absurd hj (Nat.not_lt_zero _)⟩ ?_ ?_
    · conv => whnf
      repeat' (first
        | exact trivial
        | exact rfl
        | exact pureL_ii _ _
        | refine And.intro ?_ ?_
        | exact Nat.le_of_ble_eq_true rfl)
    · rintro k ⟨hk, hall⟩
      conv => whnf
      repeat' (first
        | (refine plan_in (id := 6) [0, 1, 2, 3, 4, 5, 6, 7, 8, 9] (by kernel_rfl) (by kernel_rfl) ?_; conv => whnf)
        | (refine fun (_ : _ ≤ maxLen) => ?_; conv => whnf)
        | (refine And.intro (by omega) ?_; conv => whnf)
        | (refine append_same ?_; conv => whnf)
        | (refine get_ii_n (by omega) ?_; conv => whnf)
        | (refine And.intro (pureL_ints _ _) ?_; conv => whnf)
        | (refine eqIntS_call ?_; conv => whnf)
        | refine aIf_not ?_
        | (refine aIf_dec (fun _ => ?_) (fun _ => ?_) <;> conv => whnf))
      · refine next_u (k + 1) (by omega) ⟨by omega, fun j hj => ?_⟩ ?_
        · rcases Nat.lt_succ_iff_lt_or_eq.1 hj with h1 | rfl
          · exact hall j h1
          · assumption
        · conv => whnf
          repeat' (first
            | exact trivial
            | exact rfl
            | exact pureL_ii _ _
            | refine And.intro ?_ ?_
            | exact Nat.le_of_ble_eq_true rfl
            | exact int_eq (by rw [IntWalk.i64_in _ (by omega)] <;> omega))
      · refine retS rfl (congrArg AV.bool ?_)
        symm; rw [decide_eq_false_iff_not]; rintro rfl; contradiction
      · refine retS rfl (congrArg AV.bool ?_)
        symm; rw [decide_eq_true_iff]
        exact getD_extG (d := []) (by omega) fun j hj => hall j (by omega)
  · refine retS rfl (congrArg AV.bool ?_)
    symm; rw [decide_eq_false_iff_not]; rintro rfl; omega
theorem eqIntSS_call {c d : Nat} {xss yss : List (List Int)} {env : List AV} {rows : List Row} {ctr low : Nat} {k : AV → St → Prop} (hpre : True) (h : k (.bool (decide (xss = yss))) ⟨env, rows, ctr + 1, low⟩) :
    CallB Try.prog 22 ⟨env, rows, ctr, low⟩ [.sl c xss.length (xss.map (slI c)), .sl d yss.length (yss.map (slI d))] k := callS_in eqIntSS_sound (c, xss, d, yss) hpre rfl h
set_option maxRecDepth 10000 in
theorem eqTensorS_sound : Sound Try.prog 32 (fnS (ι := Nat × List T2 × Nat × List T2) (fun | (c, xss, d, yss) => [.sl c xss.length (xss.flatMap (tnC c)), .sl d yss.length (yss.flatMap (tnC d))]) (fun _ => True) (fun | (_, xss, _, yss) => .bool (decide (xss = yss)))) := by
  refine sound_of Try.func32 rfl (enters_of Try.func32 (by kernel_rfl) (by kernel_rfl)) ?_
  rintro ⟨c, xss, d, yss⟩ -
  have hmax : maxLen = 9223372036854775807 := rfl
  conv => whnf
  repeat' (first
    | (refine plan_in (id := 6) [0, 1, 2, 3, 4, 5, 6, 7, 8, 9] (by kernel_rfl) (by kernel_rfl) ?_; conv => whnf)
    | (refine fun (_ : _ ≤ maxLen) => ?_; conv => whnf)
    | (refine append_same ?_; conv => whnf)
    | refine aIf_not ?_
    | (refine aIf_dec (fun _ => ?_) (fun _ => ?_) <;> conv => whnf))
  · have hl : yss.length = xss.length := by omega
    refine loop_u (ι := Nat) [true, true, false, false, false, true, false, false, false, false, false, false, false, false, false, false, false, false, false, false, false, false, false, false, false, false, false] (fun k => [(5, .int .i64 k)]) (fun _ => []) (fun k => k ≤ xss.length ∧ ∀ j, j < k → xss.getD j ([], []) = yss.getD j ([], [])) (fun k => xss.length - k) (0) ⟨Nat.zero_le _, fun j hj => absurd hj (Nat.not_lt_zero _)⟩ ?_ ?_
    · conv => whnf
      repeat' (first
        | exact trivial
        | exact rfl
        | exact pureL_tn _ _
        | refine And.intro ?_ ?_
        | exact Nat.le_of_ble_eq_true rfl)
    · rintro k ⟨hk, hall⟩
      conv => whnf
      repeat' (first
        | (refine plan_in (id := 6) [0, 1, 2, 3, 4, 5, 6, 7, 8, 9] (by kernel_rfl) (by kernel_rfl) ?_; conv => whnf)
        | (refine fun (_ : _ ≤ maxLen) => ?_; conv => whnf)
        | (refine And.intro (by omega) ?_; conv => whnf)
        | (refine eqTensor_call ?_; conv => whnf)
        | (refine append_same ?_; conv => whnf)
        | (refine part_tn_n (by omega) ?_; conv => whnf)
        | (refine And.intro (pureL_ints _ _) ?_; conv => whnf)
        | refine aIf_not ?_
        | (refine aIf_dec (fun _ => ?_) (fun _ => ?_) <;> conv => whnf))
      · refine next_u (k + 1) (by omega) ⟨by omega, fun j hj => ?_⟩ ?_
        · rcases Nat.lt_succ_iff_lt_or_eq.1 hj with h1 | rfl
          · exact hall j h1
          · assumption
        · conv => whnf
          repeat' (first
            | exact trivial
            | exact rfl
            | exact pureL_tn _ _
            | refine And.intro ?_ ?_
            | exact Nat.le_of_ble_eq_true rfl
            | exact int_eq (by rw [IntWalk.i64_in _ (by omega)] <;> omega))
      · refine retS rfl (congrArg AV.bool ?_)
        symm; rw [decide_eq_false_iff_not]; rintro rfl; contradiction
      · refine retS rfl (congrArg AV.bool ?_)
        symm; rw [decide_eq_true_iff]
        exact getD_extG (d := ([], [])) (by omega) fun j hj => hall j (by omega)
  · refine retS rfl (congrArg AV.bool ?_)
    symm; rw [decide_eq_false_iff_not]; rintro rfl; omega
theorem eqTensorS_call {c d : Nat} {xss yss : List T2} {env : List AV} {rows : List Row} {ctr low : Nat} {k : AV → St → Prop} (hpre : True) (h : k (.bool (decide (xss = yss))) ⟨env, rows, ctr + 1, low⟩) :
    CallB Try.prog 32 ⟨env, rows, ctr, low⟩ [.sl c xss.length (xss.flatMap (tnC c)), .sl d yss.length (yss.flatMap (tnC d))] k := callS_in eqTensorS_sound (c, xss, d, yss) hpre rfl h
end Go.Proofs.Ytmgggbgejdkamaa

/- Chapter 4: letters: different ones, and which are taken. -/
namespace Go.Proofs.Ytmgggbgejdkamaa
set_option maxRecDepth 20000
open Go.RowKit Go.Am
set_option linter.unusedSimpArgs false
attribute [local irreducible] aPlan aGet aIf aLoop aCall RetB NextB CallB CallG aCut aSet aAppend

/-- The first k numbers are different indexes of so many. -/
def difTo (zs : List Int) (n : Int) (k : Nat) : Prop := ∀ i, i < k → (0 ≤ zs.getD i 0 ∧ zs.getD i 0 < n) ∧ ¬ zs.getD i 0 ∈ zs.take i
instance (zs : List Int) (n : Int) (k : Nat) : Decidable (difTo zs n k) := by unfold difTo; infer_instance
def difP (zs : List Int) (n : Int) : Prop := difTo zs n zs.length
instance (zs : List Int) (n : Int) : Decidable (difP zs n) := by unfold difP; infer_instance
theorem difTo_succ {zs : List Int} {n : Int} {k : Nat} : difTo zs n (k + 1) ↔ difTo zs n k ∧ (0 ≤ zs.getD k 0 ∧ zs.getD k 0 < n) ∧ ¬ zs.getD k 0 ∈ zs.take k := by
  constructor
  · exact fun h => ⟨fun i hi => h i (by omega), h k (by omega)⟩
  · rintro ⟨h1, h2⟩ i hi
    rcases Nat.lt_succ_iff_lt_or_eq.1 hi with h | rfl
    · exact h1 i h
    · exact h2
theorem mem_take_succ {zs : List Int} {k : Nat} {z : Int} (hk : k < zs.length) : z ∈ zs.take (k + 1) ↔ z ∈ zs.take k ∨ z = zs.getD k 0 := by
  rw [List.take_add_one, List.mem_append, getD_eq (d := 0) hk]
  simp
theorem turnTo_mem {zs : List Int} {n : Int} : ∀ k, k ≤ zs.length → (∀ bs, turnTo zs n k = some bs → difTo zs n k ∧ bs.length = n.toNat ∧ ∀ z : Int, 0 ≤ z → z < n → (bs.getD z.toNat false = true ↔ z ∈ zs.take k)) ∧ (turnTo zs n k = none → ¬ difTo zs n k)
  | 0, _ => ⟨fun bs h => by cases h; exact ⟨fun i hi => absurd hi (Nat.not_lt_zero _), by simp, fun z h1 h2 => by simp [List.getD, List.getElem?_replicate]; split <;> rfl⟩, fun h => by cases h⟩
  | k + 1, hk => by
    obtain ⟨ih1, ih2⟩ := turnTo_mem (zs := zs) (n := n) k (by omega)
    have hk' : k < zs.length := by omega
    cases e : turnTo zs n k with
    | none =>
      have e' := turnTo_none e 1
      exact ⟨fun bs h => absurd (e'.symm.trans h) (by simp), fun _ h => ih2 e (difTo_succ.1 h).1⟩
    | some bs =>
      obtain ⟨h1, h2, h3⟩ := ih1 bs e
      by_cases hp : 0 ≤ zs.getD k 0 ∧ zs.getD k 0 < n ∧ bs.getD (zs.getD k 0).toNat false = false
      · have e' := turnTo_next e hp
        have hm : ¬ zs.getD k 0 ∈ zs.take k := fun h => by
          have := (h3 _ hp.1 hp.2.1).2 h
          rw [hp.2.2] at this; cases this
        refine ⟨fun bs' h => ?_, fun h => by rw [e'] at h; cases h⟩
        rw [e'] at h; cases h
        refine ⟨difTo_succ.2 ⟨h1, ⟨hp.1, hp.2.1⟩, hm⟩, by simpa using h2, fun z z1 z2 => ?_⟩
        rw [getD_setG (by omega), mem_take_succ hk']
        split
        · rename_i ez
          exact ⟨fun _ => .inr (by omega), fun _ => rfl⟩
        · rename_i ez
          rw [h3 z z1 z2]
          exact ⟨.inl, fun h => h.elim id fun h => absurd (congrArg Int.toNat h.symm) ez⟩
      · have e' := turnTo_f e hp
        refine ⟨fun bs' h => absurd (e'.symm.trans h) (by simp), fun _ h => ?_⟩
        obtain ⟨-, ⟨a1, a2⟩, a3⟩ := difTo_succ.1 h
        apply hp
        refine ⟨a1, a2, ?_⟩
        rw [← Bool.not_eq_true]
        exact fun hb => a3 ((h3 _ a1 a2).1 hb)
theorem difOk_dec (zs : List Int) (n : Int) : difOk zs n = decide (difP zs n) := by
  obtain ⟨h1, h2⟩ := turnTo_mem (zs := zs) (n := n) zs.length (Nat.le_refl _)
  unfold difOk
  cases e : turnTo zs n zs.length with
  | none => exact (decide_eq_false (h2 e)).symm
  | some bs => exact (decide_eq_true (h1 bs e).1).symm
/-- Letters: no more than axes. -/
def letP (zs : List Int) (n : Int) : Prop := zs.length ≤ 3 ∧ difP zs n
instance (zs : List Int) (n : Int) : Decidable (letP zs n) := by unfold letP; infer_instance
theorem difP_in {zs : List Int} {n : Int} (h : difP zs n) : ∀ j, j < zs.length → 0 ≤ zs.getD j 0 ∧ zs.getD j 0 < n := fun j hj => (h j hj).1

/-! The model's. -/
theorem l4Has_sound : Sound Try.prog 101 (fnS (ι := Nat × List Int × Int) (fun | (c, zs, z) => [.sl c zs.length (zs.map (.int .i64)), .int .i64 z]) (fun _ => True) (fun | (_, zs, z) => .bool (decide (z ∈ zs)))) := by
  refine sound_of Try.func101 rfl (enters_of Try.func101 (by kernel_rfl) (by kernel_rfl)) ?_
  rintro ⟨c, zs, z⟩ -
  have hmax : maxLen = 9223372036854775807 := rfl
  conv => whnf
  repeat' (first
    | (refine append_same ?_; conv => whnf))
  refine loop_u (ι := Nat) [true, true, false, false, false, true, false, false, false, false, false, false, false, false, false, false, false, false] (fun k => [(5, .int .i64 k)]) (fun _ => []) (fun k => k ≤ zs.length ∧ ¬ z ∈ zs.take k) (fun k => zs.length - k) (0) ⟨Nat.zero_le _, by simp⟩ ?_ ?_
  · conv => whnf
    repeat' (first
      | exact trivial
      | exact rfl
      | exact pureL_ints _ _
      | refine And.intro ?_ ?_
      | exact Nat.le_of_ble_eq_true rfl)
  · rintro k ⟨hk, hno⟩
    have hk : k ≤ zs.length := hk
    have hno : ¬ z ∈ zs.take k := hno
    conv => whnf
    repeat' (first
      | (refine fun (_ : _ ≤ maxLen) => ?_; conv => whnf)
      | (refine get_nat (by omega) ?_; conv => whnf)
      | (refine And.intro (by omega) ?_; conv => whnf)
      | (refine append_same ?_; conv => whnf)
      | (refine aIf_dec (fun _ => ?_) (fun _ => ?_) <;> conv => whnf))
    all_goals (first | (exfalso; omega) | skip)
    · rename_i hlt he
      refine retS rfl (congrArg AV.bool (decide_eq_true ?_).symm)
      rw [← he]
      simp only [List.getD, List.getElem?_eq_getElem (show k < zs.length by omega), Option.getD_some]
      exact List.getElem_mem _
    · rename_i hlt he
      refine next_u (k + 1) (show zs.length - (k + 1) < zs.length - k by omega) ⟨(by omega : k + 1 ≤ zs.length), fun h => ?_⟩ ?_
      · rcases (mem_take_succ (by omega)).1 h with h | h
        · exact hno h
        · exact he h.symm
      · conv => whnf
        repeat' (first
          | exact trivial
          | exact rfl
          | exact pureL_ints _ _
          | refine And.intro ?_ ?_
          | exact Nat.le_of_ble_eq_true rfl
          | exact int_eq (by rw [IntWalk.i64_in _ (by omega)] <;> omega))
    · have e : k = zs.length := by omega
      rw [e, List.take_length] at hno
      exact retS rfl (congrArg AV.bool (decide_eq_false hno).symm)
theorem l4Has_call {c : Nat} {zs : List Int} {z : Int} {env : List AV} {rows : List Row} {ctr low : Nat} {k : AV → St → Prop} (hpre : True) (h : k (.bool (decide (z ∈ zs))) ⟨env, rows, ctr + 1, low⟩) :
    CallB Try.prog 101 ⟨env, rows, ctr, low⟩ [.sl c zs.length (zs.map (.int .i64)), .int .i64 z] k := callS_in l4Has_sound (c, zs, z) hpre rfl h
theorem l4Has_cut {c n : Nat} {zs : List Int} {z : Int} {cells : List AV} {env : List AV} {rows : List Row} {ctr low : Nat} {k : AV → St → Prop} (hc : cells = zs.map (.int .i64)) (hn : n = zs.length) (h : k (.bool (decide (z ∈ zs))) ⟨env, rows, ctr + 1, low⟩) :
    CallB Try.prog 101 ⟨env, rows, ctr, low⟩ [.sl c n cells, .int .i64 z] k := by
  subst hc; subst hn
  exact l4Has_call trivial h
theorem l4Letters_sound : Sound Try.prog 89 (fnS (ι := Nat × List Int × Nat) (fun | (c, zs, n) => [.sl c zs.length (zs.map (.int .i64)), .int .i64 n]) (fun | (_, _, n) => n ≤ 1048576) (fun | (_, zs, n) => .bool (decide (letP zs n)))) := by
  refine sound_of Try.func89 rfl (enters_of Try.func89 (by kernel_rfl) (by kernel_rfl)) ?_
  rintro ⟨c, zs, n⟩ hpre
  have hpre : n ≤ 1048576 := hpre
  have hmax : maxLen = 9223372036854775807 := rfl
  have hw : IntKind.i64.wrap ((n : Int) - 1) = n - 1 := IntWalk.i64_in _ (by omega)
  conv => whnf
  repeat' (first
    | (refine plan_in (id := 4) [0, 1, 2, 3, 4, 5, 6, 7, 8, 9, 10, 11, 12, 13, 14, 15, 16, 17] (by kernel_rfl) (by kernel_rfl) ?_; conv => whnf)
    | (refine append_same ?_; conv => whnf))
  refine loop_u (ι := Nat) [true, true, false, false, false, true, false, false, false, false, false, false, false, false, false, false, false, false, false, false, false, false, false, false, false, false, false, false, false, false, false, false, false] (fun k => [(5, .int .i64 k)]) (fun _ => []) (fun k => k ≤ zs.length ∧ difTo zs n k) (fun k => zs.length - k) (0) ⟨Nat.zero_le _, fun i hi => absurd hi (Nat.not_lt_zero _)⟩ ?_ ?_
  · conv => whnf
    repeat' (first
      | exact trivial
      | exact rfl
      | exact pureL_ints _ _
      | refine And.intro ?_ ?_
      | exact Nat.le_of_ble_eq_true rfl)
  · rintro k ⟨hk, hno⟩
    have hk : k ≤ zs.length := hk
    have hno : difTo zs n k := hno
    conv => whnf
    repeat' (first
      | (refine plan_in (id := 4) [0, 1, 2, 3, 4, 5, 6, 7, 8, 9, 10, 11, 12, 13, 14, 15, 16, 17] (by kernel_rfl) (by kernel_rfl) ?_; conv => whnf)
      | (refine aIf_t ?_; conv => whnf)
      | (refine aIf_f ?_; conv => whnf)
      | (refine fun (_ : _ ≤ maxLen) => ?_; conv => whnf)
      | (refine get_nat (by omega) ?_; conv => whnf)
      | (refine And.intro (by omega) ?_; conv => whnf)
      | (refine And.intro (by rw [List.length_map]; omega) ?_; conv => whnf)
      | (refine append_same ?_; conv => whnf)
      | (refine And.intro (pureL_take _ _ _) ?_; conv => whnf)
      | (refine in_call ?_; conv => whnf)
      | refine aIf_eqf ?_
      | refine aIf_not ?_
      | (refine aIf_dec (fun _ => ?_) (fun _ => ?_) <;> conv => whnf))
    all_goals (first | (exfalso; omega) | skip)
    · rename_i hlt hin
      refine l4Has_cut (zs := zs.take k) (by rw [Int.toNat_natCast, Nat.mul_one, List.map_take]) (by simp; omega) ?_
      conv => whnf
      repeat' (first
        | (refine plan_in (id := 4) [0, 1, 2, 3, 4, 5, 6, 7, 8, 9, 10, 11, 12, 13, 14, 15, 16, 17] (by kernel_rfl) (by kernel_rfl) ?_; conv => whnf)
        | (refine aIf_f ?_; conv => whnf)
        | (refine append_same ?_; conv => whnf)
        | (refine aIf_dec (fun _ => ?_) (fun _ => ?_) <;> conv => whnf))
      all_goals (first | (exfalso; omega) | skip)
      · rename_i hm
        refine retS rfl (congrArg AV.bool (decide_eq_false fun h => ?_).symm)
        exact (h.2 k (by omega)).2 hm
      · rename_i hm
        refine next_u (k + 1) (show zs.length - (k + 1) < zs.length - k by omega) ⟨(by omega : k + 1 ≤ zs.length), difTo_succ.2 ⟨hno, ⟨by omega, by omega⟩, hm⟩⟩ ?_
        conv => whnf
        repeat' (first
          | exact trivial
          | exact rfl
          | exact pureL_ints _ _
          | refine And.intro ?_ ?_
          | exact Nat.le_of_ble_eq_true rfl
          | exact int_eq (by rw [IntWalk.i64_in _ (by omega)] <;> omega))
    · rename_i hlt hin
      refine retS rfl (congrArg AV.bool (decide_eq_false fun h => ?_).symm)
      have := (h.2 k (by omega)).1
      omega
    · have e : k = zs.length := by omega
      rw [e] at hno
      refine retS rfl (bool_eq ?_)
      simp only [decide_eq_true_eq]
      exact ⟨fun h => ⟨by omega, hno⟩, fun h => by have := h.1; omega⟩
theorem l4Letters_call {c n : Nat} {zs : List Int} {env : List AV} {rows : List Row} {ctr low : Nat} {k : AV → St → Prop} (hpre : n ≤ 1048576) (h : k (.bool (decide (letP zs n))) ⟨env, rows, ctr + 1, low⟩) :
    CallB Try.prog 89 ⟨env, rows, ctr, low⟩ [.sl c zs.length (zs.map (.int .i64)), .int .i64 n] k := callS_in l4Letters_sound (c, zs, n) hpre rfl h
end Go.Proofs.Ytmgggbgejdkamaa

/- Facts of the program that every law's claim wants. -/
namespace Go.Proofs.Ytmgggbgejdkamaa
set_option maxRecDepth 20000
open Go.RowKit Go.Am Go.WideShapes Go.ChangeShapes

theorem own_ : ownKnob Try.prog.godebug = none := by kernel_rfl
theorem laid_ : laidOutB Try.prog = true := by kernel_rfl
theorem uInts : Try.prog.underlying 22 = some (.slice 3) := by kernel_rfl
theorem uByte : Try.prog.underlying 5 = some (.int .u8) := by kernel_rfl
theorem uInt : Try.prog.underlying 3 = some (.int .i64) := by kernel_rfl

end Go.Proofs.Ytmgggbgejdkamaa

/- Facts of the program about tensors. -/
namespace Go.Proofs.Ytmgggbgejdkamaa
set_option maxRecDepth 20000
open Go.RowKit Go.Am Go.WideShapes Go.ChangeShapes
theorem argT {av : AV} (h : ArgR Try.prog 83 av) : ∃ xs zs : List Int, av = .agg [.sl 1 xs.length (xs.map (.int .i64)), .sl 1 zs.length (zs.map (.int .i64))] := by
  obtain ⟨xs, zs, e, _, _⟩ := argRPair (t1 := 22) (e := 3) (by kernel_rfl) uInts uInt (by kernel_rfl) (by kernel_rfl) h
  exact ⟨xs, zs, e⟩
theorem argL {av : AV} (h : ArgR Try.prog 22 av) : ∃ zs : List Int, av = .sl 1 zs.length (zs.map (.int .i64)) := by
  obtain ⟨zs, e, _⟩ := argRInts uInts uInt h
  exact ⟨zs, e⟩
theorem argI {av : AV} (h : ArgR Try.prog 3 av) : ∃ n : Int, av = .int .i64 n ∧ (Lit.int .i64 n).wf = true := argRInt uInt h
theorem avs4 {avs : List AV} {p : Nat → AV → Prop} (hl : avs.length = 4) (h : ∀ j av, avs[j]? = some av → p j av) : ∃ a b c d, avs = [a, b, c, d] ∧ p 0 a ∧ p 1 b ∧ p 2 c ∧ p 3 d := by
  match avs, hl with
  | [a, b, c, d], _ => exact ⟨a, b, c, d, rfl, h 0 a rfl, h 1 b rfl, h 2 c rfl, h 3 d rfl⟩
end Go.Proofs.Ytmgggbgejdkamaa
