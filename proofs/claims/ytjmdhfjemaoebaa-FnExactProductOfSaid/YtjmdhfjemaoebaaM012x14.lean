import Derived.Test.YtjmdhfjemaoebaaM012x13
/- JoinShapes. -/
namespace Go.Proofs.Ytjmdhfjemaoebaa
set_option maxRecDepth 20000
open Go.RowKit Go.Am
attribute [local irreducible] aPlan aGet aIf aLoop aCall RetB NextB CallB CallG aCut aSet aAppend

/-- The axis that is so many from the end; 1 ahead of all. -/
def bx (zs : List Int) (b : Int) : Int := if (zs.length : Int) < b then 1 else zs.getD ((zs.length : Int) - b).toNat 0
set_option maxRecDepth 10000 in
theorem sizeBefore_sound : Sound Try.prog 135 (fnS (ι := Nat × List Int × Int) (fun | (c, zs, b) => [.sl c zs.length (zs.map (.int .i64)), .int .i64 b]) (fun | (_, zs, b) => zs.length ≤ 1048576 ∧ 1 ≤ b) (fun | (_, zs, b) => .int .i64 (bx zs b))) := by
  refine sound_of Try.func135 rfl (enters_of Try.func135 (by kernel_rfl) (by kernel_rfl)) ?_
  rintro ⟨c, zs, b⟩ hpre
  have hpre : zs.length ≤ 1048576 ∧ 1 ≤ b := hpre
  have hw : b ≤ zs.length → IntKind.i64.wrap ((zs.length : Int) - b) = (zs.length : Int) - b := fun h => IntWalk.i64_in _ (by omega)
  by_cases hb : b ≤ zs.length
  · have hw := hw hb
    conv => whnf
    repeat' (first
      | (refine fun (_ : _ ≤ maxLen) => ?_; conv => whnf)
      | (refine get_int (by omega) ?_; conv => whnf)
      | (refine And.intro (by omega) ?_; conv => whnf)
      | (refine append_same ?_; conv => whnf)
      | (refine aIf_dec (fun _ => ?_) (fun _ => ?_) <;> conv => whnf))
    · exfalso; omega
    · exact retS rfl (int_eq (by rw [bx, if_neg (by omega), hw]))
  · conv => whnf
    repeat' (first
      | (refine fun (_ : _ ≤ maxLen) => ?_; conv => whnf)
      | (refine get_nat (by omega) ?_; conv => whnf)
      | (refine And.intro (by omega) ?_; conv => whnf)
      | (refine append_same ?_; conv => whnf)
      | (refine aIf_dec (fun _ => ?_) (fun _ => ?_) <;> conv => whnf))
    · exact retS rfl (int_eq (by rw [bx, if_pos (by omega)]))
    · exfalso; omega
theorem sizeBefore_call {c : Nat} {zs : List Int} {b : Int} {env : List AV} {rows : List Row} {ctr low : Nat} {k : AV → St → Prop} (hpre : zs.length ≤ 1048576 ∧ 1 ≤ b) (h : k (.int .i64 (bx zs b)) ⟨env, rows, ctr + 1, low⟩) :
    CallB Try.prog 135 ⟨env, rows, ctr, low⟩ [.sl c zs.length (zs.map (.int .i64)), .int .i64 b] k := callS_in sizeBefore_sound (c, zs, b) hpre rfl h

set_option maxRecDepth 10000 in
theorem l1Axis_sound : Sound Try.prog 149 (fnS (ι := Nat × List Int × Nat) (fun | (c, zs, m) => [.sl c zs.length (zs.map (.int .i64)), .int .i64 m]) (fun | (_, zs, _) => zs.length ≤ 1048576) (fun | (_, zs, m) => .int .i64 (bx zs (m + 1)))) := by
  refine sound_of Try.func149 rfl (enters_of Try.func149 (by kernel_rfl) (by kernel_rfl)) ?_
  rintro ⟨c, zs, m⟩ hpre
  have hpre : zs.length ≤ 1048576 := hpre
  have hw1 : IntKind.i64.wrap ((zs.length : Int) - 1) = (zs.length : Int) - 1 := IntWalk.i64_in _ (by omega)
  by_cases hb : m < zs.length
  · have hw : IntKind.i64.wrap ((zs.length : Int) - 1 - m) = (zs.length : Int) - 1 - m := IntWalk.i64_in _ (by omega)
    have hw : IntKind.i64.wrap (IntKind.i64.wrap ((zs.length : Int) - 1) - m) = (zs.length : Int) - 1 - m := by rw [hw1, hw]
    conv => whnf
    repeat' (first
      | (refine fun (_ : _ ≤ maxLen) => ?_; conv => whnf)
      | (refine get_int (by omega) ?_; conv => whnf)
      | (refine And.intro (by omega) ?_; conv => whnf)
      | (refine append_same ?_; conv => whnf)
      | (refine aIf_dec (fun _ => ?_) (fun _ => ?_) <;> conv => whnf))
    · exfalso; omega
    · refine retS rfl (int_eq ?_)
      rw [bx, if_neg (by omega), hw]
      congr 1; omega
  · conv => whnf
    repeat' (first
      | (refine fun (_ : _ ≤ maxLen) => ?_; conv => whnf)
      | (refine get_nat (by omega) ?_; conv => whnf)
      | (refine And.intro (by omega) ?_; conv => whnf)
      | (refine append_same ?_; conv => whnf)
      | (refine aIf_dec (fun _ => ?_) (fun _ => ?_) <;> conv => whnf))
    · exact retS rfl (int_eq (by rw [bx, if_pos (by omega)]))
    · exfalso; omega
theorem l1Axis_call {c : Nat} {zs : List Int} {m : Nat} {env : List AV} {rows : List Row} {ctr low : Nat} {k : AV → St → Prop} (hpre : zs.length ≤ 1048576) (h : k (.int .i64 (bx zs (m + 1))) ⟨env, rows, ctr + 1, low⟩) :
    CallB Try.prog 149 ⟨env, rows, ctr, low⟩ [.sl c zs.length (zs.map (.int .i64)), .int .i64 m] k := callS_in l1Axis_sound (c, zs, m) hpre rfl h

def jn (xs ys : List Int) (b : Int) : Int := if bx xs b < bx ys b then bx ys b else bx xs b
def bad (xs ys : List Int) (b : Int) : Prop := bx xs b ≠ bx ys b ∧ bx xs b ≠ 1 ∧ bx ys b ≠ 1
instance (xs ys : List Int) (b : Int) : Decidable (bad xs ys b) := by unfold bad; infer_instance
def jN (xs ys : List Int) : Nat := max xs.length ys.length
def joined (xs ys : List Int) : List Int := (List.range (jN xs ys)).map fun (j : Nat) => jn xs ys ((jN xs ys : Int) - (j : Int))
theorem joined_length (xs ys : List Int) : (joined xs ys).length = jN xs ys := by simp [joined]
theorem joined_getD {xs ys : List Int} {j : Nat} (h : j < jN xs ys) : (joined xs ys).getD j 0 = jn xs ys ((jN xs ys : Int) - (j : Int)) := by
  simp [joined, List.getD, List.getElem?_map, List.getElem?_range h]
def jOk (xs ys : List Int) : Bool := shapeOk xs && (shapeOk ys && (List.range (jN xs ys)).all fun j => decide (¬ bad xs ys ((jN xs ys : Int) - (j : Int))))
theorem jOk_iff (xs ys : List Int) : jOk xs ys = true ↔ shapeOk xs = true ∧ shapeOk ys = true ∧ ∀ j, j < jN xs ys → ¬ bad xs ys ((jN xs ys : Int) - (j : Int)) := by
  unfold jOk
  simp only [Bool.and_eq_true, decide_eq_true_iff, List.all_eq_true, List.mem_range]
def jL (xs ys : List Int) : List Int := if jOk xs ys = true then joined xs ys else []
theorem j_t {xs ys : List Int} (h : shapeOk xs = true) (h' : shapeOk ys = true) (hb : ∀ j, j < jN xs ys → ¬ bad xs ys ((jN xs ys : Int) - (j : Int))) : jL xs ys = joined xs ys ∧ true = jOk xs ys := by
  have e := (jOk_iff xs ys).2 ⟨h, h', hb⟩
  exact ⟨if_pos e, e.symm⟩
theorem j_f {xs ys : List Int} (h : ¬ (shapeOk xs = true ∧ shapeOk ys = true ∧ ∀ j, j < jN xs ys → ¬ bad xs ys ((jN xs ys : Int) - (j : Int)))) : jL xs ys = [] ∧ false = jOk xs ys := by
  have e : jOk xs ys = false := by rw [← Bool.not_eq_true]; intro h'; exact h ((jOk_iff xs ys).1 h')
  exact ⟨if_neg (by rw [e]; decide), e.symm⟩
theorem jL_le (xs ys : List Int) : (jL xs ys).length ≤ xs.length + ys.length := by
  unfold jL; split
  · rw [joined_length]; unfold jN; omega
  · exact Nat.zero_le _
def sJoin : CSpec := fnLB (ι := Nat × List Int × Nat × List Int) 3 (fun | (c, xs, d, ys) => [.sl c xs.length (xs.map (.int .i64)), .sl d ys.length (ys.map (.int .i64))]) (fun _ => True) (fun | (_, xs, _, ys) => jL xs ys) (fun | (_, xs, _, ys) => jOk xs ys)
theorem j_end {env : List AV} {rows : List Row} {ctr τ ver : Nat} {xs ys zs' : List Int} {b : Bool} {r : Row} {n : Nat} (e1 : jL xs ys = zs' ∧ b = jOk xs ys) (hr : rows[τ]? = some r) (hv : r.ver = ver) (e : r = ⟨ver, 3, 1, zs'.map (.int .i64)⟩) (hn : n = zs'.length) :
    RetB ⟨env, rows, ctr, 0⟩ [] (fun r ic news => r = .tup [.ref 0 0 0 (jL xs ys).length, .bool (jOk xs ys)] ∧ ic = [] ∧ news = [⟨0, 3, 1, (jL xs ys).map (.int .i64)⟩]) (.tup [.ref τ ver 0 n, .bool b]) := by
  rw [e1.1]; exact retLB hr hv e hn e1.2

set_option maxHeartbeats 4000000 in
set_option maxRecDepth 10000 in
theorem iJoin_sound : Sound Try.prog 89 sJoin := by
  refine sound_of Try.func89 rfl (enters_of Try.func89 (by kernel_rfl) (by kernel_rfl)) ?_
  rintro ⟨c, xs, d, ys⟩ -
  by_cases hs : shapeOk xs = true ∧ shapeOk ys = true
  · obtain ⟨hx, hy⟩ := hs
    have hlx := ((shapeOk_iff xs).1 hx).1
    have hly := ((shapeOk_iff ys).1 hy).1
    conv => whnf
    repeat' (first
      | (refine aIf_t ?_; conv => whnf)
      | (refine aIf_f ?_; conv => whnf)
      | (refine fun (_ : _ ≤ maxLen) => ?_; conv => whnf)
      | (refine And.intro (And.intro (Int.le_refl _) (And.intro (by kernel_rfl) (And.intro rfl (by kernel_rfl)))) (And.intro (And.intro (by omega) (And.intro (bytes_le (b := 8) rfl (by omega)) (by omega))) ?_); conv => whnf)
      | (refine callG_t ?_; conv => whnf)
      | (refine append_same ?_; conv => whnf)
      | (refine And.intro (pureL_ints _ _) ?_; conv => whnf)
      | (refine iShapeOk_call ?_; conv => whnf)
      | (refine aIf_tt (by assumption) ?_; conv => whnf)
      | refine aIf_eqf ?_
      | refine aIf_not ?_
      | (refine aIf_dec (fun _ => ?_) (fun _ => ?_) <;> conv => whnf))
    · have hN : jN xs ys = ys.length := by unfold jN; omega
      refine loop_in (ι := Nat × List Int) (fun | (k, ws) => ⟨[.sl c xs.length (xs.map (.int .i64)), .sl d ys.length (ys.map (.int .i64)), .un, .un, .un, .un, .int .i64 ys.length, .ref 1 4 0 ys.length, .un, .un, .un, .un, .un, .un, .un, .un, .un, .un, .un, .un, .un, .un, .un, .un, .un, .un, .un, .un, .un, .un, .int .i64 ys.length, .int .i64 k, .un, .un, .un, .un, .un, .un, .un, .un, .un, .un, .un, .un, .un, .un, .un, .un, .un, .un, .un, .un, .un, .un, .un, .un, .un, .un, .un, .un, .un, .un, .un, .un, .un], [⟨1, 3, 1, []⟩, ⟨4, 3, 1, ws.map (.int .i64)⟩], 5, 0⟩)
        (fun x => x.1 ≤ ys.length ∧ x.2.length = ys.length ∧ ∀ j, j < x.1 → x.2.getD j 0 = jn xs ys ((ys.length : Int) - (j : Int)) ∧ ¬ bad xs ys ((ys.length : Int) - (j : Int))) (fun x => ys.length - x.1) (0, List.replicate ys.length 0) ⟨Nat.zero_le _, by simp, fun j hj => absurd hj (Nat.not_lt_zero _)⟩ ?_ ?_
      · repeat' (first
          | exact trivial
          | exact rfl
          | exact pureL_ints _ _
          | exact Or.inl (And.intro rfl rfl)
          | exact le_ints (rep_ints _ _)
          | refine And.intro ?_ ?_
          | exact Nat.le_of_ble_eq_true rfl)
      · rintro ⟨k, ws⟩ ⟨hk, hl, hall⟩
        have hk : k ≤ ys.length := hk
        have hl : ws.length = ys.length := hl
        have hall : ∀ j, j < k → ws.getD j 0 = jn xs ys ((ys.length : Int) - (j : Int)) ∧ ¬ bad xs ys ((ys.length : Int) - (j : Int)) := hall
        have hw : IntKind.i64.wrap ((ys.length : Int) - (k : Int)) = (ys.length : Int) - (k : Int) := IntWalk.i64_in _ (by omega)
        have hfail : k < ys.length → (bx xs (IntKind.i64.wrap ((ys.length : Int) - (k : Int))) ≠ bx ys (IntKind.i64.wrap ((ys.length : Int) - (k : Int))) ∧ bx xs (IntKind.i64.wrap ((ys.length : Int) - (k : Int))) ≠ 1 ∧ bx ys (IntKind.i64.wrap ((ys.length : Int) - (k : Int))) ≠ 1) → jL xs ys = [] ∧ false = jOk xs ys := fun h1 h2 => j_f (fun h => h.2.2 k (by rw [hN]; exact h1) (by rw [hN]; rw [hw] at h2; exact h2))
        have hstep : ∀ z, k < ys.length → z = jn xs ys (IntKind.i64.wrap ((ys.length : Int) - (k : Int))) → ¬ (bx xs (IntKind.i64.wrap ((ys.length : Int) - (k : Int))) ≠ bx ys (IntKind.i64.wrap ((ys.length : Int) - (k : Int))) ∧ bx xs (IntKind.i64.wrap ((ys.length : Int) - (k : Int))) ≠ 1 ∧ bx ys (IntKind.i64.wrap ((ys.length : Int) - (k : Int))) ≠ 1) → k + 1 ≤ ys.length ∧ (ws.set k z).length = ys.length ∧ ∀ j, j < k + 1 → (ws.set k z).getD j 0 = jn xs ys ((ys.length : Int) - (j : Int)) ∧ ¬ bad xs ys ((ys.length : Int) - (j : Int)) := fun z h1 h2 h3 => by
          rw [hw] at h2 h3
          refine ⟨h1, by simpa using hl, fun j hj => ?_⟩
          rw [getD_set (by omega)]
          split
          · rename_i e; subst e; exact ⟨h2, h3⟩
          · exact hall j (by omega)
        have hend : k = ys.length → jL xs ys = ws ∧ true = jOk xs ys := fun e => by
          have e1 : ws = joined xs ys := getD_ext (by rw [joined_length, hN, hl]) fun j hj => by
            rw [joined_length, hN] at hj
            rw [(hall j (by omega)).1, joined_getD (by rw [hN]; exact hj), hN]
          rw [e1]
          exact j_t hx hy (fun j hj => by rw [hN] at hj ⊢; exact (hall j (by omega)).2)
        clear hall
        conv => whnf
        repeat' (first
          | (refine aIf_t ?_; conv => whnf)
          | (refine aIf_f ?_; conv => whnf)
          | (refine And.intro (by omega) ?_; conv => whnf)
          | (refine callG_t ?_; conv => whnf)
          | (refine append_same ?_; conv => whnf)
          | (refine And.intro (pureL_ints _ _) ?_; conv => whnf)
          | (refine sizeBefore_call (by omega) ?_; conv => whnf)
          | (refine And.intro rfl (And.intro rfl (And.intro (by first | omega | (rw [List.length_map]; omega)) ?_)); conv => whnf)
          | (refine set_nat ?_ (by omega); conv => whnf)
          | refine aIf_eqt ?_
          | refine aIf_not ?_
          | (refine aIf_dec (fun _ => ?_) (fun _ => ?_) <;> conv => whnf))
        all_goals (first
          | exact j_end (hfail (by omega) (And.intro (by assumption) (And.intro (by assumption) (by assumption)))) rfl rfl rfl rfl
          | (refine next_in (k + 1, ws.set k (bx ys (IntKind.i64.wrap ((ys.length : Int) - (k : Int))))) (show ys.length - (k + 1) < ys.length - k by omega) (hstep _ (by omega) (if_pos (by assumption)).symm (by first | exact fun h => h.1 (by assumption) | exact fun h => h.2.1 (by assumption) | exact fun h => h.2.2 (by assumption))) ?_
             repeat' (first
               | exact trivial
               | exact rfl
               | exact pureL_ints _ _
               | exact Or.inl (And.intro rfl rfl)
               | exact le_ints rfl
               | refine And.intro ?_ ?_
               | exact Nat.le_of_ble_eq_true rfl
               | exact int_eq (by omega)
               | exact int_eq (by rw [IntWalk.i64_in _ (by omega)] <;> omega))
             done)
          | (refine next_in (k + 1, ws.set k (bx xs (IntKind.i64.wrap ((ys.length : Int) - (k : Int))))) (show ys.length - (k + 1) < ys.length - k by omega) (hstep _ (by omega) (if_neg (by assumption)).symm (by first | exact fun h => h.1 (by assumption) | exact fun h => h.2.1 (by assumption) | exact fun h => h.2.2 (by assumption))) ?_
             repeat' (first
               | exact trivial
               | exact rfl
               | exact pureL_ints _ _
               | exact Or.inl (And.intro rfl rfl)
               | exact le_ints rfl
               | refine And.intro ?_ ?_
               | exact Nat.le_of_ble_eq_true rfl
               | exact int_eq (by rw [IntWalk.i64_in _ (by omega)] <;> omega))
             done)
          | (have e : k = ys.length := by omega
             exact j_end (hend e) rfl rfl rfl hl.symm))
    · have hN : jN xs ys = xs.length := by unfold jN; omega
      refine loop_in (ι := Nat × List Int) (fun | (k, ws) => ⟨[.sl c xs.length (xs.map (.int .i64)), .sl d ys.length (ys.map (.int .i64)), .un, .un, .un, .un, .int .i64 xs.length, .ref 1 4 0 xs.length, .un, .un, .un, .un, .un, .un, .un, .un, .un, .un, .un, .un, .un, .un, .un, .un, .un, .un, .un, .un, .un, .un, .int .i64 xs.length, .int .i64 k, .un, .un, .un, .un, .un, .un, .un, .un, .un, .un, .un, .un, .un, .un, .un, .un, .un, .un, .un, .un, .un, .un, .un, .un, .un, .un, .un, .un, .un, .un, .un, .un, .un], [⟨1, 3, 1, []⟩, ⟨4, 3, 1, ws.map (.int .i64)⟩], 5, 0⟩)
        (fun x => x.1 ≤ xs.length ∧ x.2.length = xs.length ∧ ∀ j, j < x.1 → x.2.getD j 0 = jn xs ys ((xs.length : Int) - (j : Int)) ∧ ¬ bad xs ys ((xs.length : Int) - (j : Int))) (fun x => xs.length - x.1) (0, List.replicate xs.length 0) ⟨Nat.zero_le _, by simp, fun j hj => absurd hj (Nat.not_lt_zero _)⟩ ?_ ?_
      · repeat' (first
          | exact trivial
          | exact rfl
          | exact pureL_ints _ _
          | exact Or.inl (And.intro rfl rfl)
          | exact le_ints (rep_ints _ _)
          | refine And.intro ?_ ?_
          | exact Nat.le_of_ble_eq_true rfl)
      · rintro ⟨k, ws⟩ ⟨hk, hl, hall⟩
        have hk : k ≤ xs.length := hk
        have hl : ws.length = xs.length := hl
        have hall : ∀ j, j < k → ws.getD j 0 = jn xs ys ((xs.length : Int) - (j : Int)) ∧ ¬ bad xs ys ((xs.length : Int) - (j : Int)) := hall
        have hw : IntKind.i64.wrap ((xs.length : Int) - (k : Int)) = (xs.length : Int) - (k : Int) := IntWalk.i64_in _ (by omega)
        have hfail : k < xs.length → (bx xs (IntKind.i64.wrap ((xs.length : Int) - (k : Int))) ≠ bx ys (IntKind.i64.wrap ((xs.length : Int) - (k : Int))) ∧ bx xs (IntKind.i64.wrap ((xs.length : Int) - (k : Int))) ≠ 1 ∧ bx ys (IntKind.i64.wrap ((xs.length : Int) - (k : Int))) ≠ 1) → jL xs ys = [] ∧ false = jOk xs ys := fun h1 h2 => j_f (fun h => h.2.2 k (by rw [hN]; exact h1) (by rw [hN]; rw [hw] at h2; exact h2))
        have hstep : ∀ z, k < xs.length → z = jn xs ys (IntKind.i64.wrap ((xs.length : Int) - (k : Int))) → ¬ (bx xs (IntKind.i64.wrap ((xs.length : Int) - (k : Int))) ≠ bx ys (IntKind.i64.wrap ((xs.length : Int) - (k : Int))) ∧ bx xs (IntKind.i64.wrap ((xs.length : Int) - (k : Int))) ≠ 1 ∧ bx ys (IntKind.i64.wrap ((xs.length : Int) - (k : Int))) ≠ 1) → k + 1 ≤ xs.length ∧ (ws.set k z).length = xs.length ∧ ∀ j, j < k + 1 → (ws.set k z).getD j 0 = jn xs ys ((xs.length : Int) - (j : Int)) ∧ ¬ bad xs ys ((xs.length : Int) - (j : Int)) := fun z h1 h2 h3 => by
          rw [hw] at h2 h3
          refine ⟨h1, by simpa using hl, fun j hj => ?_⟩
          rw [getD_set (by omega)]
          split
          · rename_i e; subst e; exact ⟨h2, h3⟩
          · exact hall j (by omega)
        have hend : k = xs.length → jL xs ys = ws ∧ true = jOk xs ys := fun e => by
          have e1 : ws = joined xs ys := getD_ext (by rw [joined_length, hN, hl]) fun j hj => by
            rw [joined_length, hN] at hj
            rw [(hall j (by omega)).1, joined_getD (by rw [hN]; exact hj), hN]
          rw [e1]
          exact j_t hx hy (fun j hj => by rw [hN] at hj ⊢; exact (hall j (by omega)).2)
        clear hall
        conv => whnf
        repeat' (first
          | (refine aIf_t ?_; conv => whnf)
          | (refine aIf_f ?_; conv => whnf)
          | (refine And.intro (by omega) ?_; conv => whnf)
          | (refine callG_t ?_; conv => whnf)
          | (refine append_same ?_; conv => whnf)
          | (refine And.intro (pureL_ints _ _) ?_; conv => whnf)
          | (refine sizeBefore_call (by omega) ?_; conv => whnf)
          | (refine And.intro rfl (And.intro rfl (And.intro (by first | omega | (rw [List.length_map]; omega)) ?_)); conv => whnf)
          | (refine set_nat ?_ (by omega); conv => whnf)
          | refine aIf_eqt ?_
          | refine aIf_not ?_
          | (refine aIf_dec (fun _ => ?_) (fun _ => ?_) <;> conv => whnf))
        all_goals (first
          | exact j_end (hfail (by omega) (And.intro (by assumption) (And.intro (by assumption) (by assumption)))) rfl rfl rfl rfl
          | (refine next_in (k + 1, ws.set k (bx ys (IntKind.i64.wrap ((xs.length : Int) - (k : Int))))) (show xs.length - (k + 1) < xs.length - k by omega) (hstep _ (by omega) (if_pos (by assumption)).symm (by first | exact fun h => h.1 (by assumption) | exact fun h => h.2.1 (by assumption) | exact fun h => h.2.2 (by assumption))) ?_
             repeat' (first
               | exact trivial
               | exact rfl
               | exact pureL_ints _ _
               | exact Or.inl (And.intro rfl rfl)
               | exact le_ints rfl
               | refine And.intro ?_ ?_
               | exact Nat.le_of_ble_eq_true rfl
               | exact int_eq (by omega)
               | exact int_eq (by rw [IntWalk.i64_in _ (by omega)] <;> omega))
             done)
          | (refine next_in (k + 1, ws.set k (bx xs (IntKind.i64.wrap ((xs.length : Int) - (k : Int))))) (show xs.length - (k + 1) < xs.length - k by omega) (hstep _ (by omega) (if_neg (by assumption)).symm (by first | exact fun h => h.1 (by assumption) | exact fun h => h.2.1 (by assumption) | exact fun h => h.2.2 (by assumption))) ?_
             repeat' (first
               | exact trivial
               | exact rfl
               | exact pureL_ints _ _
               | exact Or.inl (And.intro rfl rfl)
               | exact le_ints rfl
               | refine And.intro ?_ ?_
               | exact Nat.le_of_ble_eq_true rfl
               | exact int_eq (by rw [IntWalk.i64_in _ (by omega)] <;> omega))
             done)
          | (have e : k = xs.length := by omega
             exact j_end (hend e) rfl rfl rfl hl.symm))
    all_goals (exfalso; simp_all; done)
  · conv => whnf
    repeat' (first
      | (refine aIf_t ?_; conv => whnf)
      | (refine aIf_f ?_; conv => whnf)
      | (refine fun (_ : _ ≤ maxLen) => ?_; conv => whnf)
      | (refine callG_t ?_; conv => whnf)
      | (refine append_same ?_; conv => whnf)
      | (refine And.intro (pureL_ints _ _) ?_; conv => whnf)
      | (refine iShapeOk_call ?_; conv => whnf)
      | refine aIf_eqf ?_
      | refine aIf_not ?_
      | (refine aIf_dec (fun _ => ?_) (fun _ => ?_) <;> conv => whnf)
      | (refine aIf_in (fun _ => ?_) (fun _ => ?_) <;> conv => whnf))
    all_goals (first
      | exact j_end (j_f (fun h => hs ⟨h.1, h.2.1⟩)) rfl rfl rfl rfl
      | exact absurd ⟨by assumption, by assumption⟩ hs)
end Go.Proofs.Ytjmdhfjemaoebaa

/- JoinShapes of the spec. -/
namespace Go.Proofs.Ytjmdhfjemaoebaa
set_option maxRecDepth 20000
open Go.RowKit Go.Am
attribute [local irreducible] aPlan aGet aIf aLoop aCall RetB NextB CallB CallG aCut aSet aAppend

set_option maxHeartbeats 4000000 in
set_option maxRecDepth 10000 in
theorem l1Join_sound : Sound Try.prog 131 (fnLB (ι := Nat × List Int × Nat × List Int) 3 (fun | (c, xs, d, ys) => [.sl c xs.length (xs.map (.int .i64)), .sl d ys.length (ys.map (.int .i64))]) (fun | (_, xs, _, ys) => shapeOk xs = true ∧ shapeOk ys = true) (fun | (_, xs, _, ys) => jL xs ys) (fun | (_, xs, _, ys) => jOk xs ys)) := by
  refine sound_of Try.func131 rfl (enters_of Try.func131 (by kernel_rfl) (by kernel_rfl)) ?_
  rintro ⟨c, xs, d, ys⟩ ⟨hx, hy⟩
  have hlx := ((shapeOk_iff xs).1 hx).1
  have hly := ((shapeOk_iff ys).1 hy).1
  conv => whnf
  repeat' (first
    | (refine fun (_ : _ ≤ maxLen) => ?_; conv => whnf)
    | (refine And.intro (And.intro (Int.le_refl _) (And.intro (by kernel_rfl) (And.intro rfl (by kernel_rfl)))) (And.intro (And.intro (by omega) (And.intro (bytes_le (b := 8) rfl (by omega)) (by omega))) ?_); conv => whnf)
    | (refine append_same ?_; conv => whnf)
    | (refine aIf_dec (fun _ => ?_) (fun _ => ?_) <;> conv => whnf))
  · have hN : jN xs ys = ys.length := by unfold jN; omega
    have hw1 : IntKind.i64.wrap ((ys.length : Int) - 1) = (ys.length : Int) - 1 := IntWalk.i64_in _ (by omega)
    refine loop_in (ι := Nat × List Int) (fun | (k, ws) => ⟨[.sl c xs.length (xs.map (.int .i64)), .sl d ys.length (ys.map (.int .i64)), .un, .un, .un, .un, .int .i64 ys.length, .ref 1 2 0 ys.length, .int .i64 k, .un, .un, .un, .un, .un, .un, .un, .un, .un, .un, .un, .un, .un, .un, .un, .un, .un, .un, .un, .un, .un, .un, .un, .un, .un, .un, .un, .un, .un, .un, .un, .un, .un, .un, .un, .un, .un, .un, .un, .un, .un, .un, .un, .un, .un, .un], [⟨1, 3, 1, []⟩, ⟨2, 3, 1, ws.map (.int .i64)⟩], 3, 0⟩)
      (fun x => x.1 ≤ ys.length ∧ x.2.length = ys.length ∧ ∀ j, ys.length - x.1 ≤ j → j < ys.length → x.2.getD j 0 = jn xs ys ((ys.length : Int) - (j : Int)) ∧ ¬ bad xs ys ((ys.length : Int) - (j : Int))) (fun x => ys.length - x.1) (0, List.replicate ys.length 0) ⟨Nat.zero_le _, by simp, fun j h1 h2 => absurd h1 (by simp only [Nat.sub_zero]; omega)⟩ ?_ ?_
    · repeat' (first
        | exact trivial
        | exact rfl
        | exact pureL_ints _ _
        | exact Or.inl (And.intro rfl rfl)
        | exact le_ints (rep_ints _ _)
        | refine And.intro ?_ ?_
        | exact Nat.le_of_ble_eq_true rfl)
    · rintro ⟨k, ws⟩ ⟨hk, hl, hall⟩
      have hk : k ≤ ys.length := hk
      have hl : ws.length = ys.length := hl
      have hall : ∀ j, ys.length - k ≤ j → j < ys.length → ws.getD j 0 = jn xs ys ((ys.length : Int) - (j : Int)) ∧ ¬ bad xs ys ((ys.length : Int) - (j : Int)) := hall
      have hw2 : k < ys.length → IntKind.i64.wrap (IntKind.i64.wrap ((ys.length : Int) - 1) - (k : Int)) = (ys.length : Int) - 1 - (k : Int) := fun h => by rw [hw1]; exact IntWalk.i64_in _ (by omega)
      have hfail : k < ys.length → (bx xs ((k : Int) + 1) ≠ bx ys ((k : Int) + 1) ∧ bx xs ((k : Int) + 1) ≠ 1 ∧ bx ys ((k : Int) + 1) ≠ 1) → jL xs ys = [] ∧ false = jOk xs ys := fun h1 h2 => j_f (fun h => h.2.2 (ys.length - 1 - k) (by rw [hN]; omega) (by
        rw [hN, show ((ys.length : Int) - ((ys.length - 1 - k : Nat) : Int)) = (k : Int) + 1 by omega]; exact h2))
      have hstep : ∀ z, k < ys.length → z = jn xs ys ((k : Int) + 1) → ¬ (bx xs ((k : Int) + 1) ≠ bx ys ((k : Int) + 1) ∧ bx xs ((k : Int) + 1) ≠ 1 ∧ bx ys ((k : Int) + 1) ≠ 1) → k + 1 ≤ ys.length ∧ (ws.set (IntKind.i64.wrap (IntKind.i64.wrap ((ys.length : Int) - 1) - (k : Int))).toNat z).length = ys.length ∧ ∀ j, ys.length - (k + 1) ≤ j → j < ys.length → (ws.set (IntKind.i64.wrap (IntKind.i64.wrap ((ys.length : Int) - 1) - (k : Int))).toNat z).getD j 0 = jn xs ys ((ys.length : Int) - (j : Int)) ∧ ¬ bad xs ys ((ys.length : Int) - (j : Int)) := fun z h1 h2 h3 => by
        have hi : (IntKind.i64.wrap (IntKind.i64.wrap ((ys.length : Int) - 1) - (k : Int))).toNat = ys.length - 1 - k := by rw [hw2 h1]; omega
        rw [hi]
        refine ⟨h1, by simpa using hl, fun j hj hj' => ?_⟩
        rw [getD_set (by omega)]
        split
        · rename_i e
          have e' : (ys.length : Int) - (j : Int) = (k : Int) + 1 := by omega
          rw [e']; exact ⟨h2, h3⟩
        · exact hall j (by omega) hj'
      have hend : k = ys.length → jL xs ys = ws ∧ true = jOk xs ys := fun e => by
        have e1 : ws = joined xs ys := getD_ext (by rw [joined_length, hN, hl]) fun j hj => by
          rw [joined_length, hN] at hj
          rw [(hall j (by omega) hj).1, joined_getD (by rw [hN]; exact hj), hN]
        rw [e1]
        exact j_t hx hy (fun j hj => by rw [hN] at hj ⊢; exact (hall j (by omega) hj).2)
      clear hall
      by_cases hkN : k < ys.length
      · have hw2 := hw2 hkN
        conv => whnf
        repeat' (first
          | (refine aIf_t ?_; conv => whnf)
          | (refine aIf_f ?_; conv => whnf)
          | (refine And.intro (by omega) ?_; conv => whnf)
          | (refine callG_t ?_; conv => whnf)
          | (refine append_same ?_; conv => whnf)
          | (refine And.intro (pureL_ints _ _) ?_; conv => whnf)
          | (refine l1Axis_call (by omega) ?_; conv => whnf)
          | (refine And.intro rfl (And.intro rfl (And.intro (by first | omega | (rw [List.length_map]; omega)) ?_)); conv => whnf)
          | (refine set_nat ?_ (by omega); conv => whnf)
          | (refine set_int ?_ (by omega); conv => whnf)
          | refine aIf_eqt ?_
          | refine aIf_not ?_
          | (refine aIf_dec (fun _ => ?_) (fun _ => ?_) <;> conv => whnf))
        all_goals (first
        | exact j_end (hfail (by omega) (And.intro (by assumption) (And.intro (by assumption) (by assumption)))) rfl rfl rfl rfl
        | (refine next_in (k + 1, ws.set (IntKind.i64.wrap (IntKind.i64.wrap ((ys.length : Int) - 1) - (k : Int))).toNat (bx ys ((k : Int) + 1))) (show ys.length - (k + 1) < ys.length - k by omega) (hstep _ (by omega) (if_pos (by assumption)).symm (by first | exact fun h => h.1 (by assumption) | exact fun h => h.2.1 (by assumption) | exact fun h => h.2.2 (by assumption))) ?_
           repeat' (first
             | exact trivial
             | exact rfl
             | exact pureL_ints _ _
             | exact Or.inl (And.intro rfl rfl)
             | exact le_ints rfl
             | refine And.intro ?_ ?_
             | exact Nat.le_of_ble_eq_true rfl
             | exact int_eq (by omega)
             | exact int_eq (by rw [IntWalk.i64_in _ (by omega)] <;> omega))
           done)
        | (refine next_in (k + 1, ws.set (IntKind.i64.wrap (IntKind.i64.wrap ((ys.length : Int) - 1) - (k : Int))).toNat (bx xs ((k : Int) + 1))) (show ys.length - (k + 1) < ys.length - k by omega) (hstep _ (by omega) (if_neg (by assumption)).symm (by first | exact fun h => h.1 (by assumption) | exact fun h => h.2.1 (by assumption) | exact fun h => h.2.2 (by assumption))) ?_
           repeat' (first
             | exact trivial
             | exact rfl
             | exact pureL_ints _ _
             | exact Or.inl (And.intro rfl rfl)
             | exact le_ints rfl
             | refine And.intro ?_ ?_
             | exact Nat.le_of_ble_eq_true rfl
             | exact int_eq (by rw [IntWalk.i64_in _ (by omega)] <;> omega))
           done)
        | (exfalso; omega))
      · conv => whnf
        repeat' (first
          | (refine aIf_t ?_; conv => whnf)
          | (refine aIf_f ?_; conv => whnf)
          | (refine And.intro (by omega) ?_; conv => whnf)
          | (refine callG_t ?_; conv => whnf)
          | (refine append_same ?_; conv => whnf)
          | (refine l1Axis_call (by omega) ?_; conv => whnf)
          | (refine set_nat ?_ (by omega); conv => whnf)
          | refine aIf_eqt ?_
          | refine aIf_not ?_
          | (refine aIf_dec (fun _ => ?_) (fun _ => ?_) <;> conv => whnf))
        all_goals (first
        | (exfalso; omega)
        | exact j_end (hend (by omega)) rfl rfl rfl hl.symm)
  · have hN : jN xs ys = xs.length := by unfold jN; omega
    have hw1 : IntKind.i64.wrap ((xs.length : Int) - 1) = (xs.length : Int) - 1 := IntWalk.i64_in _ (by omega)
    refine loop_in (ι := Nat × List Int) (fun | (k, ws) => ⟨[.sl c xs.length (xs.map (.int .i64)), .sl d ys.length (ys.map (.int .i64)), .un, .un, .un, .un, .int .i64 xs.length, .ref 1 2 0 xs.length, .int .i64 k, .un, .un, .un, .un, .un, .un, .un, .un, .un, .un, .un, .un, .un, .un, .un, .un, .un, .un, .un, .un, .un, .un, .un, .un, .un, .un, .un, .un, .un, .un, .un, .un, .un, .un, .un, .un, .un, .un, .un, .un, .un, .un, .un, .un, .un, .un], [⟨1, 3, 1, []⟩, ⟨2, 3, 1, ws.map (.int .i64)⟩], 3, 0⟩)
      (fun x => x.1 ≤ xs.length ∧ x.2.length = xs.length ∧ ∀ j, xs.length - x.1 ≤ j → j < xs.length → x.2.getD j 0 = jn xs ys ((xs.length : Int) - (j : Int)) ∧ ¬ bad xs ys ((xs.length : Int) - (j : Int))) (fun x => xs.length - x.1) (0, List.replicate xs.length 0) ⟨Nat.zero_le _, by simp, fun j h1 h2 => absurd h1 (by simp only [Nat.sub_zero]; omega)⟩ ?_ ?_
    · repeat' (first
        | exact trivial
        | exact rfl
        | exact pureL_ints _ _
        | exact Or.inl (And.intro rfl rfl)
        | exact le_ints (rep_ints _ _)
        | refine And.intro ?_ ?_
        | exact Nat.le_of_ble_eq_true rfl)
    · rintro ⟨k, ws⟩ ⟨hk, hl, hall⟩
      have hk : k ≤ xs.length := hk
      have hl : ws.length = xs.length := hl
      have hall : ∀ j, xs.length - k ≤ j → j < xs.length → ws.getD j 0 = jn xs ys ((xs.length : Int) - (j : Int)) ∧ ¬ bad xs ys ((xs.length : Int) - (j : Int)) := hall
      have hw2 : k < xs.length → IntKind.i64.wrap (IntKind.i64.wrap ((xs.length : Int) - 1) - (k : Int)) = (xs.length : Int) - 1 - (k : Int) := fun h => by rw [hw1]; exact IntWalk.i64_in _ (by omega)
      have hfail : k < xs.length → (bx xs ((k : Int) + 1) ≠ bx ys ((k : Int) + 1) ∧ bx xs ((k : Int) + 1) ≠ 1 ∧ bx ys ((k : Int) + 1) ≠ 1) → jL xs ys = [] ∧ false = jOk xs ys := fun h1 h2 => j_f (fun h => h.2.2 (xs.length - 1 - k) (by rw [hN]; omega) (by
        rw [hN, show ((xs.length : Int) - ((xs.length - 1 - k : Nat) : Int)) = (k : Int) + 1 by omega]; exact h2))
      have hstep : ∀ z, k < xs.length → z = jn xs ys ((k : Int) + 1) → ¬ (bx xs ((k : Int) + 1) ≠ bx ys ((k : Int) + 1) ∧ bx xs ((k : Int) + 1) ≠ 1 ∧ bx ys ((k : Int) + 1) ≠ 1) → k + 1 ≤ xs.length ∧ (ws.set (IntKind.i64.wrap (IntKind.i64.wrap ((xs.length : Int) - 1) - (k : Int))).toNat z).length = xs.length ∧ ∀ j, xs.length - (k + 1) ≤ j → j < xs.length → (ws.set (IntKind.i64.wrap (IntKind.i64.wrap ((xs.length : Int) - 1) - (k : Int))).toNat z).getD j 0 = jn xs ys ((xs.length : Int) - (j : Int)) ∧ ¬ bad xs ys ((xs.length : Int) - (j : Int)) := fun z h1 h2 h3 => by
        have hi : (IntKind.i64.wrap (IntKind.i64.wrap ((xs.length : Int) - 1) - (k : Int))).toNat = xs.length - 1 - k := by rw [hw2 h1]; omega
        rw [hi]
        refine ⟨h1, by simpa using hl, fun j hj hj' => ?_⟩
        rw [getD_set (by omega)]
        split
        · rename_i e
          have e' : (xs.length : Int) - (j : Int) = (k : Int) + 1 := by omega
          rw [e']; exact ⟨h2, h3⟩
        · exact hall j (by omega) hj'
      have hend : k = xs.length → jL xs ys = ws ∧ true = jOk xs ys := fun e => by
        have e1 : ws = joined xs ys := getD_ext (by rw [joined_length, hN, hl]) fun j hj => by
          rw [joined_length, hN] at hj
          rw [(hall j (by omega) hj).1, joined_getD (by rw [hN]; exact hj), hN]
        rw [e1]
        exact j_t hx hy (fun j hj => by rw [hN] at hj ⊢; exact (hall j (by omega) hj).2)
      clear hall
      by_cases hkN : k < xs.length
      · have hw2 := hw2 hkN
        conv => whnf
        repeat' (first
          | (refine aIf_t ?_; conv => whnf)
          | (refine aIf_f ?_; conv => whnf)
          | (refine And.intro (by omega) ?_; conv => whnf)
          | (refine callG_t ?_; conv => whnf)
          | (refine append_same ?_; conv => whnf)
          | (refine And.intro (pureL_ints _ _) ?_; conv => whnf)
          | (refine l1Axis_call (by omega) ?_; conv => whnf)
          | (refine And.intro rfl (And.intro rfl (And.intro (by first | omega | (rw [List.length_map]; omega)) ?_)); conv => whnf)
          | (refine set_nat ?_ (by omega); conv => whnf)
          | (refine set_int ?_ (by omega); conv => whnf)
          | refine aIf_eqt ?_
          | refine aIf_not ?_
          | (refine aIf_dec (fun _ => ?_) (fun _ => ?_) <;> conv => whnf))
        all_goals (first
        | exact j_end (hfail (by omega) (And.intro (by assumption) (And.intro (by assumption) (by assumption)))) rfl rfl rfl rfl
        | (refine next_in (k + 1, ws.set (IntKind.i64.wrap (IntKind.i64.wrap ((xs.length : Int) - 1) - (k : Int))).toNat (bx ys ((k : Int) + 1))) (show xs.length - (k + 1) < xs.length - k by omega) (hstep _ (by omega) (if_pos (by assumption)).symm (by first | exact fun h => h.1 (by assumption) | exact fun h => h.2.1 (by assumption) | exact fun h => h.2.2 (by assumption))) ?_
           repeat' (first
             | exact trivial
             | exact rfl
             | exact pureL_ints _ _
             | exact Or.inl (And.intro rfl rfl)
             | exact le_ints rfl
             | refine And.intro ?_ ?_
             | exact Nat.le_of_ble_eq_true rfl
             | exact int_eq (by omega)
             | exact int_eq (by rw [IntWalk.i64_in _ (by omega)] <;> omega))
           done)
        | (refine next_in (k + 1, ws.set (IntKind.i64.wrap (IntKind.i64.wrap ((xs.length : Int) - 1) - (k : Int))).toNat (bx xs ((k : Int) + 1))) (show xs.length - (k + 1) < xs.length - k by omega) (hstep _ (by omega) (if_neg (by assumption)).symm (by first | exact fun h => h.1 (by assumption) | exact fun h => h.2.1 (by assumption) | exact fun h => h.2.2 (by assumption))) ?_
           repeat' (first
             | exact trivial
             | exact rfl
             | exact pureL_ints _ _
             | exact Or.inl (And.intro rfl rfl)
             | exact le_ints rfl
             | refine And.intro ?_ ?_
             | exact Nat.le_of_ble_eq_true rfl
             | exact int_eq (by rw [IntWalk.i64_in _ (by omega)] <;> omega))
           done)
        | (exfalso; omega))
      · conv => whnf
        repeat' (first
          | (refine aIf_t ?_; conv => whnf)
          | (refine aIf_f ?_; conv => whnf)
          | (refine And.intro (by omega) ?_; conv => whnf)
          | (refine callG_t ?_; conv => whnf)
          | (refine append_same ?_; conv => whnf)
          | (refine l1Axis_call (by omega) ?_; conv => whnf)
          | (refine set_nat ?_ (by omega); conv => whnf)
          | refine aIf_eqt ?_
          | refine aIf_not ?_
          | (refine aIf_dec (fun _ => ?_) (fun _ => ?_) <;> conv => whnf))
        all_goals (first
        | (exfalso; omega)
        | exact j_end (hend (by omega)) rfl rfl rfl hl.symm)

theorem jL_le6 (xs ys : List Int) : (jL xs ys).length ≤ 6 := by
  by_cases h : jOk xs ys = true
  · have h' := (jOk_iff xs ys).1 h
    have h1 := ((shapeOk_iff xs).1 h'.1).1
    have h2 := ((shapeOk_iff ys).1 h'.2.1).1
    have := jL_le xs ys
    omega
  · unfold jL; rw [if_neg h]; exact Nat.zero_le _
theorem l1Join_call {c d : Nat} {xs ys : List Int} {env : List AV} {rows : List Row} {ctr low : Nat} {k : AV → St → Prop} (hpre : shapeOk xs = true ∧ shapeOk ys = true) (hk : k (.tup [.ref rows.length ctr 0 (jL xs ys).length, .bool (jOk xs ys)]) ⟨env, rows ++ [⟨ctr, 3, 1, (jL xs ys).map (.int .i64)⟩], ctr + 1, low⟩) :
    CallB Try.prog 131 ⟨env, rows, ctr, low⟩ [.sl c xs.length (xs.map (.int .i64)), .sl d ys.length (ys.map (.int .i64))] k := callLB_in l1Join_sound (c, xs, d, ys) hpre hk
theorem iJoin_call {c d : Nat} {xs ys : List Int} {env : List AV} {rows : List Row} {ctr low : Nat} {k : AV → St → Prop} (hk : k (.tup [.ref rows.length ctr 0 (jL xs ys).length, .bool (jOk xs ys)]) ⟨env, rows ++ [⟨ctr, 3, 1, (jL xs ys).map (.int .i64)⟩], ctr + 1, low⟩) :
    CallB Try.prog 89 ⟨env, rows, ctr, low⟩ [.sl c xs.length (xs.map (.int .i64)), .sl d ys.length (ys.map (.int .i64))] k := callLB_in iJoin_sound (c, xs, d, ys) trivial hk

set_option maxRecDepth 10000 in
theorem sJoin_sound : Sound Try.prog 103 sJoin := by
  refine sound_of Try.func103 rfl (enters_of Try.func103 (by kernel_rfl) (by kernel_rfl)) ?_
  rintro ⟨c, xs, d, ys⟩ -
  by_cases hs : shapeOk xs = true ∧ shapeOk ys = true
  · conv => whnf
    repeat' (first
      | (refine aIf_t ?_; conv => whnf)
      | (refine aIf_f ?_; conv => whnf)
      | (refine fun (_ : _ ≤ maxLen) => ?_; conv => whnf)
      | (refine get_nat0 (by omega) ?_; conv => whnf)
      | (refine get_int0 (by omega) ?_; conv => whnf)
      | (refine get_nat (by omega) ?_; conv => whnf)
      | (refine get_int (by omega) ?_; conv => whnf)
      | (refine aGet_in rfl ?_; conv => whnf)
      | (refine And.intro (And.intro (Int.le_refl _) (And.intro (by kernel_rfl) (And.intro rfl (by kernel_rfl)))) (And.intro (And.intro (by omega) (And.intro (bytes_le (b := 8) rfl (by omega)) (by omega))) ?_); conv => whnf)
      | (refine And.intro (by omega) ?_; conv => whnf)
      | (refine load_same ?_; conv => whnf)
      | (refine And.intro (by rw [List.length_map]; omega) ?_; conv => whnf)
      | (refine And.intro rfl (And.intro (List.cons_ne_nil _ _) ?_); conv => whnf)
      | (refine And.intro (Nat.le_of_ble_eq_true rfl) ?_; conv => whnf)
      | (refine callG_t ?_; conv => whnf)
      | (refine append_same ?_; conv => whnf)
      | (refine And.intro (And.intro (Int.le_refl _) (And.intro (by kernel_rfl) (And.intro rfl (by kernel_rfl)))) (And.intro (And.intro (by omega) (And.intro (bytes_le (b := 24) rfl (by omega)) (by omega))) ?_); conv => whnf)
      | (refine And.intro (And.intro (Int.le_refl _) (And.intro (by kernel_rfl) (And.intro rfl (by kernel_rfl)))) (And.intro (And.intro (by omega) (And.intro (bytes_le (b := 48) rfl (by omega)) (by omega))) ?_); conv => whnf)
      | (refine And.intro rfl (And.intro rfl (And.intro (by rw [fillC_length (by omega)]; omega) ?_)); conv => whnf)
      | (refine And.intro rfl (And.intro rfl (And.intro (by rw [fillF_length (ndO_length _) rfl (by omega)]; omega) ?_)); conv => whnf)
      | (refine And.intro rfl (And.intro rfl (And.intro (by rw [fillF_length (tnO_length _) rfl (by omega)]; omega) ?_)); conv => whnf)
      | (refine set_fillC (by omega) (by omega) ?_; conv => whnf)
      | (refine set_fillF (ndO_length _) (by omega) rfl ?_; conv => whnf)
      | (refine set_fillF (tnO_length _) (by omega) rfl ?_; conv => whnf)
      | (refine And.intro (ond_fit (by omega) (Nat.le_of_ble_eq_true rfl)) ?_; conv => whnf)
      | (refine set_ond (by omega) (Nat.le_of_ble_eq_true rfl) ⟨_, rfl⟩ (fun _ _ _ _ => ?_); conv => whnf)
      | (refine get_oi_n (by omega) ?_; conv => whnf)
      | (refine get_ond_n (by omega) rfl ?_; conv => whnf)
      | (refine get_otn_n (by omega) rfl ?_; conv => whnf)
      | (refine get_oi (by omega) ?_; conv => whnf)
      | (refine get_oi (by omega) ?_; conv => whnf)
      | (refine get_oi (by omega) ?_; conv => whnf)
      | (refine takeN_in ?_; conv => whnf)
      | (refine And.intro (pureL_ints _ _) ?_; conv => whnf)
      | (refine And.intro (pureL_take _ _ _) ?_; conv => whnf)
      | (refine And.intro (pureL_cut _ _ _ _) ?_; conv => whnf)
      | (refine cut_ints ?_; conv => whnf)
      | (refine cut_all rfl (scalL_ints _ _) ?_; conv => whnf)
      | (refine cut_all (by simp only [List.length_map]; omega) (scalL_ints _ _) ?_; conv => whnf)
      | (refine sShapeOk_call ?_; conv => whnf)
      | (refine l1Join_call (And.intro (by assumption) (by assumption)) ?_; conv => whnf)
      | (refine And.intro rfl (And.intro rfl (And.intro (by first | omega | (rw [List.length_map]; omega)) ?_)); conv => whnf)
      | (refine set_nat ?_ (by omega); conv => whnf)
      | (refine set_int ?_ (by omega); conv => whnf)
      | (refine set_bool ?_ (by omega); conv => whnf)
      | (refine set_force ?_; conv => whnf)
      | (refine get_bool0 (by omega) ?_; conv => whnf)
      | (refine And.intro (And.intro (Int.le_refl _) (And.intro (by kernel_rfl) (And.intro rfl (by kernel_rfl)))) (And.intro (And.intro (by omega) (And.intro (bytes_le (b := 1) rfl (by omega)) (by omega))) ?_); conv => whnf)
      | (refine And.intro (And.intro (by kernel_rfl) (And.intro rfl (Nat.le_of_ble_eq_true rfl))) ?_; conv => whnf)
      | (refine And.intro (And.intro (by kernel_rfl) (by kernel_rfl)) ?_; conv => whnf)
      | (refine And.intro (by kernel_rfl) ?_; conv => whnf)
      | (refine aIf_tt (by assumption) ?_; conv => whnf)
      | (refine aIf_ff (by assumption) ?_; conv => whnf)
      | refine aIf_eqt ?_
      | refine aIf_eqf ?_
      | refine aIf_not ?_
      | (refine aIf_bself ?_; conv => whnf)
      | (refine aIf_beself ?_; conv => whnf)
      | (refine aIf_iself ?_; conv => whnf)
      | (refine aIf_decself ?_; conv => whnf)
      | (refine aIf_dec (fun _ => ?_) (fun _ => ?_) <;> conv => whnf)
      | (refine aIf_beq (fun _ => ?_) (fun _ => ?_) <;> conv => whnf)
      | (refine aIf_bne (fun _ => ?_) (fun _ => ?_) <;> conv => whnf)
      | (refine aIf_bbne (fun _ => ?_) (fun _ => ?_) <;> conv => whnf)
      | (refine aIf_bbeq (fun _ => ?_) (fun _ => ?_) <;> conv => whnf)
      | (refine aIf_in (fun _ => ?_) (fun _ => ?_) <;> conv => whnf))
    all_goals (first
      | exact j_end ⟨rfl, rfl⟩ rfl rfl rfl rfl
      | (exfalso; simp_all; done))
  · conv => whnf
    repeat' (first
      | (refine aIf_t ?_; conv => whnf)
      | (refine aIf_f ?_; conv => whnf)
      | (refine fun (_ : _ ≤ maxLen) => ?_; conv => whnf)
      | (refine get_nat0 (by omega) ?_; conv => whnf)
      | (refine get_int0 (by omega) ?_; conv => whnf)
      | (refine get_nat (by omega) ?_; conv => whnf)
      | (refine get_int (by omega) ?_; conv => whnf)
      | (refine aGet_in rfl ?_; conv => whnf)
      | (refine And.intro (And.intro (Int.le_refl _) (And.intro (by kernel_rfl) (And.intro rfl (by kernel_rfl)))) (And.intro (And.intro (by omega) (And.intro (bytes_le (b := 8) rfl (by omega)) (by omega))) ?_); conv => whnf)
      | (refine And.intro (by omega) ?_; conv => whnf)
      | (refine load_same ?_; conv => whnf)
      | (refine And.intro (by rw [List.length_map]; omega) ?_; conv => whnf)
      | (refine And.intro rfl (And.intro (List.cons_ne_nil _ _) ?_); conv => whnf)
      | (refine And.intro (Nat.le_of_ble_eq_true rfl) ?_; conv => whnf)
      | (refine callG_t ?_; conv => whnf)
      | (refine append_same ?_; conv => whnf)
      | (refine And.intro (And.intro (Int.le_refl _) (And.intro (by kernel_rfl) (And.intro rfl (by kernel_rfl)))) (And.intro (And.intro (by omega) (And.intro (bytes_le (b := 24) rfl (by omega)) (by omega))) ?_); conv => whnf)
      | (refine And.intro (And.intro (Int.le_refl _) (And.intro (by kernel_rfl) (And.intro rfl (by kernel_rfl)))) (And.intro (And.intro (by omega) (And.intro (bytes_le (b := 48) rfl (by omega)) (by omega))) ?_); conv => whnf)
      | (refine And.intro rfl (And.intro rfl (And.intro (by rw [fillC_length (by omega)]; omega) ?_)); conv => whnf)
      | (refine And.intro rfl (And.intro rfl (And.intro (by rw [fillF_length (ndO_length _) rfl (by omega)]; omega) ?_)); conv => whnf)
      | (refine And.intro rfl (And.intro rfl (And.intro (by rw [fillF_length (tnO_length _) rfl (by omega)]; omega) ?_)); conv => whnf)
      | (refine set_fillC (by omega) (by omega) ?_; conv => whnf)
      | (refine set_fillF (ndO_length _) (by omega) rfl ?_; conv => whnf)
      | (refine set_fillF (tnO_length _) (by omega) rfl ?_; conv => whnf)
      | (refine And.intro (ond_fit (by omega) (Nat.le_of_ble_eq_true rfl)) ?_; conv => whnf)
      | (refine set_ond (by omega) (Nat.le_of_ble_eq_true rfl) ⟨_, rfl⟩ (fun _ _ _ _ => ?_); conv => whnf)
      | (refine get_oi_n (by omega) ?_; conv => whnf)
      | (refine get_ond_n (by omega) rfl ?_; conv => whnf)
      | (refine get_otn_n (by omega) rfl ?_; conv => whnf)
      | (refine get_oi (by omega) ?_; conv => whnf)
      | (refine get_oi (by omega) ?_; conv => whnf)
      | (refine get_oi (by omega) ?_; conv => whnf)
      | (refine takeN_in ?_; conv => whnf)
      | (refine And.intro (pureL_ints _ _) ?_; conv => whnf)
      | (refine And.intro (pureL_take _ _ _) ?_; conv => whnf)
      | (refine And.intro (pureL_cut _ _ _ _) ?_; conv => whnf)
      | (refine cut_ints ?_; conv => whnf)
      | (refine cut_all rfl (scalL_ints _ _) ?_; conv => whnf)
      | (refine cut_all (by simp only [List.length_map]; omega) (scalL_ints _ _) ?_; conv => whnf)
      | (refine sShapeOk_call ?_; conv => whnf)
      | (refine l1Join_call (And.intro (by assumption) (by assumption)) ?_; conv => whnf)
      | (refine And.intro rfl (And.intro rfl (And.intro (by first | omega | (rw [List.length_map]; omega)) ?_)); conv => whnf)
      | (refine set_nat ?_ (by omega); conv => whnf)
      | (refine set_int ?_ (by omega); conv => whnf)
      | (refine set_bool ?_ (by omega); conv => whnf)
      | (refine set_force ?_; conv => whnf)
      | (refine get_bool0 (by omega) ?_; conv => whnf)
      | (refine And.intro (And.intro (Int.le_refl _) (And.intro (by kernel_rfl) (And.intro rfl (by kernel_rfl)))) (And.intro (And.intro (by omega) (And.intro (bytes_le (b := 1) rfl (by omega)) (by omega))) ?_); conv => whnf)
      | (refine And.intro (And.intro (by kernel_rfl) (And.intro rfl (Nat.le_of_ble_eq_true rfl))) ?_; conv => whnf)
      | (refine And.intro (And.intro (by kernel_rfl) (by kernel_rfl)) ?_; conv => whnf)
      | (refine And.intro (by kernel_rfl) ?_; conv => whnf)
      | (refine aIf_tt (by assumption) ?_; conv => whnf)
      | (refine aIf_ff (by assumption) ?_; conv => whnf)
      | refine aIf_eqt ?_
      | refine aIf_eqf ?_
      | refine aIf_not ?_
      | (refine aIf_bself ?_; conv => whnf)
      | (refine aIf_beself ?_; conv => whnf)
      | (refine aIf_iself ?_; conv => whnf)
      | (refine aIf_decself ?_; conv => whnf)
      | (refine aIf_dec (fun _ => ?_) (fun _ => ?_) <;> conv => whnf)
      | (refine aIf_beq (fun _ => ?_) (fun _ => ?_) <;> conv => whnf)
      | (refine aIf_bne (fun _ => ?_) (fun _ => ?_) <;> conv => whnf)
      | (refine aIf_bbne (fun _ => ?_) (fun _ => ?_) <;> conv => whnf)
      | (refine aIf_bbeq (fun _ => ?_) (fun _ => ?_) <;> conv => whnf)
      | (refine aIf_in (fun _ => ?_) (fun _ => ?_) <;> conv => whnf))
    all_goals (first
      | exact j_end (j_f (fun h => hs ⟨h.1, h.2.1⟩)) rfl rfl rfl rfl
      | exact absurd ⟨by assumption, by assumption⟩ hs)
theorem sJoin_call {c d : Nat} {xs ys : List Int} {env : List AV} {rows : List Row} {ctr low : Nat} {k : AV → St → Prop} (hk : k (.tup [.ref rows.length ctr 0 (jL xs ys).length, .bool (jOk xs ys)]) ⟨env, rows ++ [⟨ctr, 3, 1, (jL xs ys).map (.int .i64)⟩], ctr + 1, low⟩) :
    CallB Try.prog 103 ⟨env, rows, ctr, low⟩ [.sl c xs.length (xs.map (.int .i64)), .sl d ys.length (ys.map (.int .i64))] k := callLB_in sJoin_sound (c, xs, d, ys) trivial hk
end Go.Proofs.Ytjmdhfjemaoebaa
