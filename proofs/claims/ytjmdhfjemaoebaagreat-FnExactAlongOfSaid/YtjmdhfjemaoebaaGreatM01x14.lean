import Derived.Test.YtjmdhfjemaoebaaGreatM01x13
namespace Go.Proofs.YtjmdhfjemaoebaaGreat
set_option maxRecDepth 20000
open Go.RowKit Go.Am
attribute [local irreducible] aPlan aGet aIf aLoop aCall RetB NextB CallB CallG aCut aSet aAppend
theorem cnt_bound {xs : List Int} (h : shapeOk xs = true) : ∀ k, k ≤ xs.length → 1 ≤ cntTo xs k ∧ cntTo xs k ≤ 4 ^ k
  | 0, _ => ⟨Int.le_refl _, Int.le_refl _⟩
  | k + 1, hk => by
    obtain ⟨h1, h2⟩ := cnt_bound h k (by omega)
    obtain ⟨h3, h4⟩ := (shapeOk_iff xs).1 h
    obtain ⟨h5, h6⟩ := (okSize_iff _).1 (h4 k (by omega))
    have hp : (4 : Int) ^ k ≤ 16 := by
      have : k ≤ 2 := by omega
      rcases k with _ | _ | _ | k
      · decide
      · decide
      · decide
      · omega
    have a1 : 1 * 1 ≤ cntTo xs k * xs.getD k 0 := Int.mul_le_mul h1 h5 (by decide) (by omega)
    have a2 : cntTo xs k * xs.getD k 0 ≤ 4 ^ k * 4 := Int.mul_le_mul h2 h6 (by omega) (by omega)
    have a3 : cntTo xs (k + 1) = cntTo xs k * xs.getD k 0 := by
      show IntKind.i64.wrap _ = _
      exact IntWalk.i64_in _ (by omega)
    rw [a3, Int.pow_succ]
    exact ⟨by omega, a2⟩
def quoT (zs : List Int) (i : Int) : Nat → Int
  | 0 => i
  | m + 1 => IntKind.i64.wrap ((quoT zs i m).tdiv (zs.getD (zs.length - 1 - m) 0))
theorem quoT_next {zs : List Int} {i : Int} {q : Nat} (h : q + 1 ≤ zs.length) : quoT zs i (zs.length - q) = IntKind.i64.wrap ((quoT zs i (zs.length - (q + 1))).tdiv (zs.getD q 0)) := by
  have e : zs.length - q = (zs.length - (q + 1)) + 1 := by omega
  rw [e, quoT]
  congr 3; omega
def places (zs : List Int) (i : Int) : List Int := (List.range zs.length).map fun j => (quoT zs i (zs.length - 1 - j)).tmod (zs.getD j 0)
theorem places_length (zs : List Int) (i : Int) : (places zs i).length = zs.length := by simp [places]
theorem places_getD {zs : List Int} {i : Int} {j : Nat} (h : j < zs.length) : (places zs i).getD j 0 = (quoT zs i (zs.length - 1 - j)).tmod (zs.getD j 0) := by
  simp [places, List.getD, List.getElem?_map, List.getElem?_range h]
def plInv (zs : List Int) (i : Int) (x : Nat × List Int) : Prop := x.1 ≤ zs.length ∧ x.2.length = zs.length ∧ ∀ j, x.1 ≤ j → j < zs.length → x.2.getD j 0 = (quoT zs i (zs.length - 1 - j)).tmod (zs.getD j 0)
theorem plInv_0 (zs : List Int) (i : Int) : plInv zs i (zs.length, List.replicate zs.length 0) := ⟨Nat.le_refl _, by simp, fun j h1 h2 => by omega⟩
theorem plInv_next {zs : List Int} {i : Int} {q : Nat} {ws : List Int} (h : plInv zs i (q + 1, ws)) : plInv zs i (q, ws.set q ((quoT zs i (zs.length - (q + 1))).tmod (zs.getD q 0))) := by
  obtain ⟨h1, h2, h3⟩ := h
  have h1 : q + 1 ≤ zs.length := h1
  have h2 : ws.length = zs.length := h2
  have h3 : ∀ j, q + 1 ≤ j → j < zs.length → ws.getD j 0 = (quoT zs i (zs.length - 1 - j)).tmod (zs.getD j 0) := h3
  refine ⟨(show q ≤ zs.length by omega), by simpa using h2, fun j hj hl => ?_⟩
  show (ws.set q ((quoT zs i (zs.length - (q + 1))).tmod (zs.getD q 0))).getD j 0 = _
  rw [getD_set (by omega)]
  split
  · rename_i e; subst e
    congr 2; omega
  · have hj : q ≤ j := hj
    exact h3 j (by omega) hl
theorem plInv_end {zs ws : List Int} {i : Int} (h : plInv zs i (0, ws)) : ws = places zs i := getD_ext (by rw [places_length]; exact h.2.1) fun j hj => by
  rw [places_length] at hj
  rw [places_getD hj]; exact h.2.2 j (Nat.zero_le _) hj
set_option maxRecDepth 10000 in
theorem l1Place_sound : Sound Tryz.prog 154 (fnL (ι := Nat × List Int × Int) 3 (fun | (c, zs, i) => [.sl c zs.length (zs.map (.int .i64)), .int .i64 i]) (fun | (_, zs, _) => shapeOk zs = true) (fun | (_, zs, i) => places zs i)) := by
  refine sound_of Tryz.func154 rfl (enters_of Tryz.func154 (by kernel_rfl) (by kernel_rfl)) ?_
  rintro ⟨c, zs, i⟩ hpre
  have h3 := (shapeOk_iff zs).1 hpre
  conv => whnf
  repeat' (first
    | ((first | refine fun (_ : _ ≤ maxLen) => ?_ | refine And.intro (And.intro (Int.le_refl _) (And.intro (by kernel_rfl) (And.intro rfl (by kernel_rfl)))) (And.intro (And.intro (by omega) (And.intro (bytes_le (b := 8) rfl (by omega)) (by omega))) ?_) | refine append_same ?_); conv => whnf))
  refine loop_in (ι := Nat × List Int) (fun | (q, ws) => ⟨[.sl c zs.length (zs.map (.int .i64)), .int .i64 (quoT zs i (zs.length - q)), .un, .un, .un, .ref 1 2 0 zs.length, .int .i64 (q - 1), .un, .un, .un, .un, .un, .un, .un, .un, .un, .un, .un, .un, .un, .un, .un, .un, .un, .un, .un, .un, .un, .un, .un, .un, .un, .un], [⟨1, 3, 1, []⟩, ⟨2, 3, 1, ws.map (.int .i64)⟩], 3, 0⟩)
    (plInv zs i) (fun x => x.1) (zs.length, List.replicate zs.length 0) (plInv_0 zs i) ?_ ?_
  · have e0 : i = quoT zs i (zs.length - zs.length) := by rw [Nat.sub_self]; rfl
    repeat' (first
      | exact trivial | exact rfl
      | exact pureL_ints _ _ | exact Or.inl (And.intro rfl rfl)
      | exact le_ints (rep_ints _ _) | refine And.intro ?_ ?_
      | exact Nat.le_of_ble_eq_true rfl | exact int_eq (by assumption)
      | exact int_eq (by rw [IntWalk.i64_in _ (by omega)] <;> omega))
  · rintro ⟨q, ws⟩ hi
    have hq : q ≤ zs.length := hi.1
    have hl : ws.length = zs.length := hi.2.1
    by_cases h0 : q = 0
    · subst h0
      conv => whnf
      repeat' (first
        | ((first | refine aIf_f ?_ | refine append_same ?_); conv => whnf))
      all_goals (first
        | exact (by have e := plInv_end hi; subst e; exact retL rfl rfl rfl (places_length zs i).symm)
        | (exfalso; omega))
    · obtain ⟨q, rfl⟩ : ∃ q', q = q' + 1 := ⟨q - 1, by omega⟩
      have e1 : (((q + 1 : Nat) : Int) - 1).toNat = q := by omega
      have hz := (okSize_iff _).1 (h3.2 q (by omega))
      have hz' : 1 ≤ zs.getD (((q + 1 : Nat) : Int) - 1).toNat 0 ∧ zs.getD (((q + 1 : Nat) : Int) - 1).toNat 0 ≤ 4 := by rw [e1]; exact hz
      have e2 := quoT_next (zs := zs) (i := i) hq
      conv => whnf
      repeat' (first
        | ((first | refine get_int (by omega) ?_ | refine And.intro (by omega) ?_ | refine append_same ?_ | refine And.intro rfl (And.intro rfl (And.intro (by first | omega | (rw [List.length_map]; omega)) ?_)) | refine set_int ?_ (by omega)); conv => whnf) | (refine aIf_dec (fun _ => ?_) (fun _ => ?_) <;> conv => whnf))
      · rw [e1]
        refine next_in (q, ws.set q ((quoT zs i (zs.length - (q + 1))).tmod (zs.getD q 0))) (Nat.lt_succ_self _) (plInv_next hi) ?_
        rw [← e2]
        repeat' (first
          | exact trivial | exact rfl
          | exact pureL_ints _ _ | exact Or.inl (And.intro rfl rfl)
          | exact le_ints rfl | refine And.intro ?_ ?_
          | exact Nat.le_of_ble_eq_true rfl | exact int_eq (by rw [IntWalk.i64_in _ (by omega)] <;> omega))
      all_goals (exfalso; omega)
theorem l1Place_call {c : Nat} {zs : List Int} {i : Int} {env : List AV} {rows : List Row} {ctr low : Nat} {k : AV → St → Prop} (hpre : shapeOk zs = true) (hk : k (.ref rows.length ctr 0 (places zs i).length) ⟨env, rows ++ [⟨ctr, 3, 1, (places zs i).map (.int .i64)⟩], ctr + 1, low⟩) :
    CallB Tryz.prog 154 ⟨env, rows, ctr, low⟩ [.sl c zs.length (zs.map (.int .i64)), .int .i64 i] k := callL_in l1Place_sound (c, zs, i) hpre hk
end Go.Proofs.YtjmdhfjemaoebaaGreat
namespace Go.Proofs.YtjmdhfjemaoebaaGreat
set_option maxRecDepth 20000
open Go.RowKit Go.Am
attribute [local irreducible] aPlan aGet aIf aLoop aCall RetB NextB CallB CallG aCut aSet aAppend
def bx (zs : List Int) (b : Int) : Int := if (zs.length : Int) < b then 1 else zs.getD ((zs.length : Int) - b).toNat 0
set_option maxRecDepth 10000 in
theorem sizeBefore_sound : Sound Tryz.prog 193 (fnS (ι := Nat × List Int × Int) (fun | (c, zs, b) => [.sl c zs.length (zs.map (.int .i64)), .int .i64 b]) (fun | (_, zs, b) => zs.length ≤ 1048576 ∧ 1 ≤ b) (fun | (_, zs, b) => .int .i64 (bx zs b))) := by
  refine sound_of Tryz.func193 rfl (enters_of Tryz.func193 (by kernel_rfl) (by kernel_rfl)) ?_
  rintro ⟨c, zs, b⟩ hpre
  have hpre : zs.length ≤ 1048576 ∧ 1 ≤ b := hpre
  have hw : b ≤ zs.length → IntKind.i64.wrap ((zs.length : Int) - b) = (zs.length : Int) - b := fun h => IntWalk.i64_in _ (by omega)
  by_cases hb : b ≤ zs.length
  · have hw := hw hb
    conv => whnf
    repeat' (first
      | ((first | refine fun (_ : _ ≤ maxLen) => ?_ | refine get_int (by omega) ?_ | refine And.intro (by omega) ?_ | refine append_same ?_); conv => whnf) | (refine aIf_dec (fun _ => ?_) (fun _ => ?_) <;> conv => whnf))
    · exfalso; omega
    · exact retS rfl (int_eq (by rw [bx, if_neg (by omega), hw]))
  · conv => whnf
    repeat' (first
      | ((first | refine fun (_ : _ ≤ maxLen) => ?_ | refine get_nat (by omega) ?_ | refine And.intro (by omega) ?_ | refine append_same ?_); conv => whnf) | (refine aIf_dec (fun _ => ?_) (fun _ => ?_) <;> conv => whnf))
    · exact retS rfl (int_eq (by rw [bx, if_pos (by omega)]))
    · exfalso; omega
theorem sizeBefore_call {c : Nat} {zs : List Int} {b : Int} {env : List AV} {rows : List Row} {ctr low : Nat} {k : AV → St → Prop} (hpre : zs.length ≤ 1048576 ∧ 1 ≤ b) (h : k (.int .i64 (bx zs b)) ⟨env, rows, ctr + 1, low⟩) :
    CallB Tryz.prog 193 ⟨env, rows, ctr, low⟩ [.sl c zs.length (zs.map (.int .i64)), .int .i64 b] k := callS_in sizeBefore_sound (c, zs, b) hpre rfl h
set_option maxRecDepth 10000 in
theorem l1Axis_sound : Sound Tryz.prog 177 (fnS (ι := Nat × List Int × Nat) (fun | (c, zs, m) => [.sl c zs.length (zs.map (.int .i64)), .int .i64 m]) (fun | (_, zs, _) => zs.length ≤ 1048576) (fun | (_, zs, m) => .int .i64 (bx zs (m + 1)))) := by
  refine sound_of Tryz.func177 rfl (enters_of Tryz.func177 (by kernel_rfl) (by kernel_rfl)) ?_
  rintro ⟨c, zs, m⟩ hpre
  have hpre : zs.length ≤ 1048576 := hpre
  have hw1 : IntKind.i64.wrap ((zs.length : Int) - 1) = (zs.length : Int) - 1 := IntWalk.i64_in _ (by omega)
  by_cases hb : m < zs.length
  · have hw : IntKind.i64.wrap ((zs.length : Int) - 1 - m) = (zs.length : Int) - 1 - m := IntWalk.i64_in _ (by omega)
    have hw : IntKind.i64.wrap (IntKind.i64.wrap ((zs.length : Int) - 1) - m) = (zs.length : Int) - 1 - m := by rw [hw1, hw]
    conv => whnf
    repeat' (first
      | ((first | refine fun (_ : _ ≤ maxLen) => ?_ | refine get_int (by omega) ?_ | refine And.intro (by omega) ?_ | refine append_same ?_); conv => whnf) | (refine aIf_dec (fun _ => ?_) (fun _ => ?_) <;> conv => whnf))
    · exfalso; omega
    · refine retS rfl (int_eq ?_)
      rw [bx, if_neg (by omega), hw]
      congr 1; omega
  · conv => whnf
    repeat' (first
      | ((first | refine fun (_ : _ ≤ maxLen) => ?_ | refine get_nat (by omega) ?_ | refine And.intro (by omega) ?_ | refine append_same ?_); conv => whnf) | (refine aIf_dec (fun _ => ?_) (fun _ => ?_) <;> conv => whnf))
    · exact retS rfl (int_eq (by rw [bx, if_pos (by omega)]))
    · exfalso; omega
theorem l1Axis_call {c : Nat} {zs : List Int} {m : Nat} {env : List AV} {rows : List Row} {ctr low : Nat} {k : AV → St → Prop} (hpre : zs.length ≤ 1048576) (h : k (.int .i64 (bx zs (m + 1))) ⟨env, rows, ctr + 1, low⟩) :
    CallB Tryz.prog 177 ⟨env, rows, ctr, low⟩ [.sl c zs.length (zs.map (.int .i64)), .int .i64 m] k := callS_in l1Axis_sound (c, zs, m) hpre rfl h
def jn (xs ys : List Int) (b : Int) : Int := if bx xs b < bx ys b then bx ys b else bx xs b
def bad (xs ys : List Int) (b : Int) : Prop := bx xs b ≠ bx ys b ∧ bx xs b ≠ 1 ∧ bx ys b ≠ 1
instance (xs ys : List Int) (b : Int) : Decidable (bad xs ys b) := by unfold bad; infer_instance
def jN (xs ys : List Int) : Nat := max xs.length ys.length
def joined (xs ys : List Int) : List Int := (List.range (jN xs ys)).map fun (j : Nat) => jn xs ys ((jN xs ys : Int) - (j : Int))
theorem joined_length (xs ys : List Int) : (joined xs ys).length = jN xs ys := by simp [joined]
theorem joined_getD {xs ys : List Int} {j : Nat} (h : j < jN xs ys) : (joined xs ys).getD j 0 = jn xs ys ((jN xs ys : Int) - (j : Int)) := by
  simp [joined, List.getD, List.getElem?_map, List.getElem?_range h]
def jOk (xs ys : List Int) : Bool := shapeOk xs && (shapeOk ys && (List.range (jN xs ys)).all fun j => decide (¬ bad xs ys ((jN xs ys : Int) - (j : Int))))
theorem jOk_iff (xs ys : List Int) : jOk xs ys = true ↔ shapeOk xs = true ∧ shapeOk ys = true ∧ ∀ j, j < jN xs ys → ¬ bad xs ys ((jN xs ys : Int) - (j : Int)) := by
  unfold jOk
  simp only [Bool.and_eq_true, decide_eq_true_iff, List.all_eq_true, List.mem_range]
def jL (xs ys : List Int) : List Int := if jOk xs ys = true then joined xs ys else []
theorem j_t {xs ys : List Int} (h : shapeOk xs = true) (h' : shapeOk ys = true) (hb : ∀ j, j < jN xs ys → ¬ bad xs ys ((jN xs ys : Int) - (j : Int))) : jL xs ys = joined xs ys ∧ true = jOk xs ys := by
  have e := (jOk_iff xs ys).2 ⟨h, h', hb⟩
  exact ⟨if_pos e, e.symm⟩
theorem j_f {xs ys : List Int} (h : ¬ (shapeOk xs = true ∧ shapeOk ys = true ∧ ∀ j, j < jN xs ys → ¬ bad xs ys ((jN xs ys : Int) - (j : Int)))) : jL xs ys = [] ∧ false = jOk xs ys := by
  have e : jOk xs ys = false := by rw [← Bool.not_eq_true]; intro h'; exact h ((jOk_iff xs ys).1 h')
  exact ⟨if_neg (by rw [e]; decide), e.symm⟩
theorem jL_le (xs ys : List Int) : (jL xs ys).length ≤ xs.length + ys.length := by
  unfold jL; split
  · rw [joined_length]; unfold jN; omega
  · exact Nat.zero_le _
def sJoin : CSpec := fnLB (ι := Nat × List Int × Nat × List Int) 3 (fun | (c, xs, d, ys) => [.sl c xs.length (xs.map (.int .i64)), .sl d ys.length (ys.map (.int .i64))]) (fun _ => True) (fun | (_, xs, _, ys) => jL xs ys) (fun | (_, xs, _, ys) => jOk xs ys)
theorem j_end {env : List AV} {rows : List Row} {ctr τ ver : Nat} {xs ys zs' : List Int} {b : Bool} {r : Row} {n : Nat} (e1 : jL xs ys = zs' ∧ b = jOk xs ys) (hr : rows[τ]? = some r) (hv : r.ver = ver) (e : r = ⟨ver, 3, 1, zs'.map (.int .i64)⟩) (hn : n = zs'.length) :
    RetB ⟨env, rows, ctr, 0⟩ [] (fun r ic news => r = .tup [.ref 0 0 0 (jL xs ys).length, .bool (jOk xs ys)] ∧ ic = [] ∧ news = [⟨0, 3, 1, (jL xs ys).map (.int .i64)⟩]) (.tup [.ref τ ver 0 n, .bool b]) := by
  rw [e1.1]; exact retLB hr hv e hn e1.2
set_option maxHeartbeats 4000000 in
set_option maxRecDepth 10000 in
theorem iJoin_sound : Sound Tryz.prog 188 sJoin := by
  refine sound_of Tryz.func188 rfl (enters_of Tryz.func188 (by kernel_rfl) (by kernel_rfl)) ?_
  rintro ⟨c, xs, d, ys⟩ -
  by_cases hs : shapeOk xs = true ∧ shapeOk ys = true
  · obtain ⟨hx, hy⟩ := hs
    have hlx := ((shapeOk_iff xs).1 hx).1
    have hly := ((shapeOk_iff ys).1 hy).1
    conv => whnf
    repeat' (first
      | ((first | refine aIf_t ?_ | refine aIf_f ?_ | refine fun (_ : _ ≤ maxLen) => ?_ | refine And.intro (And.intro (Int.le_refl _) (And.intro (by kernel_rfl) (And.intro rfl (by kernel_rfl)))) (And.intro (And.intro (by omega) (And.intro (bytes_le (b := 8) rfl (by omega)) (by omega))) ?_) | refine callG_t ?_ | refine append_same ?_ | refine And.intro (pureL_ints _ _) ?_ | refine iShapeOk_call ?_ | refine aIf_tt (by assumption) ?_); conv => whnf) | refine aIf_eqf ?_
      | refine aIf_not ?_ | (refine aIf_dec (fun _ => ?_) (fun _ => ?_) <;> conv => whnf))
    · have hN : jN xs ys = ys.length := by unfold jN; omega
      refine loop_in (ι := Nat × List Int) (fun | (k, ws) => ⟨[.sl c xs.length (xs.map (.int .i64)), .sl d ys.length (ys.map (.int .i64)), .un, .un, .un, .un, .int .i64 ys.length, .ref 1 4 0 ys.length, .un, .un, .un, .un, .un, .un, .un, .un, .un, .un, .un, .un, .un, .un, .un, .un, .un, .un, .un, .un, .un, .un, .int .i64 ys.length, .int .i64 k, .un, .un, .un, .un, .un, .un, .un, .un, .un, .un, .un, .un, .un, .un, .un, .un, .un, .un, .un, .un, .un, .un, .un, .un, .un, .un, .un, .un, .un, .un, .un, .un, .un], [⟨1, 3, 1, []⟩, ⟨4, 3, 1, ws.map (.int .i64)⟩], 5, 0⟩)
        (fun x => x.1 ≤ ys.length ∧ x.2.length = ys.length ∧ ∀ j, j < x.1 → x.2.getD j 0 = jn xs ys ((ys.length : Int) - (j : Int)) ∧ ¬ bad xs ys ((ys.length : Int) - (j : Int))) (fun x => ys.length - x.1) (0, List.replicate ys.length 0) ⟨Nat.zero_le _, by simp, fun j hj => absurd hj (Nat.not_lt_zero _)⟩ ?_ ?_
      · repeat' (first
          | exact trivial | exact rfl
          | exact pureL_ints _ _ | exact Or.inl (And.intro rfl rfl)
          | exact le_ints (rep_ints _ _) | refine And.intro ?_ ?_
          | exact Nat.le_of_ble_eq_true rfl)
      · rintro ⟨k, ws⟩ ⟨hk, hl, hall⟩
        have hk : k ≤ ys.length := hk
        have hl : ws.length = ys.length := hl
        have hall : ∀ j, j < k → ws.getD j 0 = jn xs ys ((ys.length : Int) - (j : Int)) ∧ ¬ bad xs ys ((ys.length : Int) - (j : Int)) := hall
        have hw : IntKind.i64.wrap ((ys.length : Int) - (k : Int)) = (ys.length : Int) - (k : Int) := IntWalk.i64_in _ (by omega)
        have hfail : k < ys.length → (bx xs (IntKind.i64.wrap ((ys.length : Int) - (k : Int))) ≠ bx ys (IntKind.i64.wrap ((ys.length : Int) - (k : Int))) ∧ bx xs (IntKind.i64.wrap ((ys.length : Int) - (k : Int))) ≠ 1 ∧ bx ys (IntKind.i64.wrap ((ys.length : Int) - (k : Int))) ≠ 1) → jL xs ys = [] ∧ false = jOk xs ys := fun h1 h2 => j_f (fun h => h.2.2 k (by rw [hN]; exact h1) (by rw [hN]; rw [hw] at h2; exact h2))
        have hstep : ∀ z, k < ys.length → z = jn xs ys (IntKind.i64.wrap ((ys.length : Int) - (k : Int))) → ¬ (bx xs (IntKind.i64.wrap ((ys.length : Int) - (k : Int))) ≠ bx ys (IntKind.i64.wrap ((ys.length : Int) - (k : Int))) ∧ bx xs (IntKind.i64.wrap ((ys.length : Int) - (k : Int))) ≠ 1 ∧ bx ys (IntKind.i64.wrap ((ys.length : Int) - (k : Int))) ≠ 1) → k + 1 ≤ ys.length ∧ (ws.set k z).length = ys.length ∧ ∀ j, j < k + 1 → (ws.set k z).getD j 0 = jn xs ys ((ys.length : Int) - (j : Int)) ∧ ¬ bad xs ys ((ys.length : Int) - (j : Int)) := fun z h1 h2 h3 => by
          rw [hw] at h2 h3
          refine ⟨h1, by simpa using hl, fun j hj => ?_⟩
          rw [getD_set (by omega)]
          split
          · rename_i e; subst e; exact ⟨h2, h3⟩
          · exact hall j (by omega)
        have hend : k = ys.length → jL xs ys = ws ∧ true = jOk xs ys := fun e => by
          have e1 : ws = joined xs ys := getD_ext (by rw [joined_length, hN, hl]) fun j hj => by
            rw [joined_length, hN] at hj
            rw [(hall j (by omega)).1, joined_getD (by rw [hN]; exact hj), hN]
          rw [e1]
          exact j_t hx hy (fun j hj => by rw [hN] at hj ⊢; exact (hall j (by omega)).2)
        clear hall
        conv => whnf
        repeat' (first
          | ((first | refine aIf_t ?_ | refine aIf_f ?_ | refine And.intro (by omega) ?_ | refine callG_t ?_ | refine append_same ?_ | refine And.intro (pureL_ints _ _) ?_ | refine sizeBefore_call (by omega) ?_ | refine And.intro rfl (And.intro rfl (And.intro (by first | omega | (rw [List.length_map]; omega)) ?_)) | refine set_nat ?_ (by omega)); conv => whnf) | refine aIf_eqt ?_
          | refine aIf_not ?_ | (refine aIf_dec (fun _ => ?_) (fun _ => ?_) <;> conv => whnf))
        all_goals (first
          | exact j_end (hfail (by omega) (And.intro (by assumption) (And.intro (by assumption) (by assumption)))) rfl rfl rfl rfl
          | (refine next_in (k + 1, ws.set k (bx ys (IntKind.i64.wrap ((ys.length : Int) - (k : Int))))) (show ys.length - (k + 1) < ys.length - k by omega) (hstep _ (by omega) (if_pos (by assumption)).symm (by first | exact fun h => h.1 (by assumption) | exact fun h => h.2.1 (by assumption) | exact fun h => h.2.2 (by assumption))) ?_
             repeat' (first
               | exact trivial | exact rfl
               | exact pureL_ints _ _ | exact Or.inl (And.intro rfl rfl)
               | exact le_ints rfl | refine And.intro ?_ ?_
               | exact Nat.le_of_ble_eq_true rfl | exact int_eq (by omega)
               | exact int_eq (by rw [IntWalk.i64_in _ (by omega)] <;> omega))
             done)
          | (refine next_in (k + 1, ws.set k (bx xs (IntKind.i64.wrap ((ys.length : Int) - (k : Int))))) (show ys.length - (k + 1) < ys.length - k by omega) (hstep _ (by omega) (if_neg (by assumption)).symm (by first | exact fun h => h.1 (by assumption) | exact fun h => h.2.1 (by assumption) | exact fun h => h.2.2 (by assumption))) ?_
             repeat' (first
               | exact trivial | exact rfl
               | exact pureL_ints _ _ | exact Or.inl (And.intro rfl rfl)
               | exact le_ints rfl | refine And.intro ?_ ?_
               | exact Nat.le_of_ble_eq_true rfl | exact int_eq (by rw [IntWalk.i64_in _ (by omega)] <;> omega))
             done)
          | (have e : k = ys.length := by omega
             exact j_end (hend e) rfl rfl rfl hl.symm))
    · have hN : jN xs ys = xs.length := by unfold jN; omega
      refine loop_in (ι := Nat × List Int) (fun | (k, ws) => ⟨[.sl c xs.length (xs.map (.int .i64)), .sl d ys.length (ys.map (.int .i64)), .un, .un, .un, .un, .int .i64 xs.length, .ref 1 4 0 xs.length, .un, .un, .un, .un, .un, .un, .un, .un, .un, .un, .un, .un, .un, .un, .un, .un, .un, .un, .un, .un, .un, .un, .int .i64 xs.length, .int .i64 k, .un, .un, .un, .un, .un, .un, .un, .un, .un, .un, .un, .un, .un, .un, .un, .un, .un, .un, .un, .un, .un, .un, .un, .un, .un, .un, .un, .un, .un, .un, .un, .un, .un], [⟨1, 3, 1, []⟩, ⟨4, 3, 1, ws.map (.int .i64)⟩], 5, 0⟩)
        (fun x => x.1 ≤ xs.length ∧ x.2.length = xs.length ∧ ∀ j, j < x.1 → x.2.getD j 0 = jn xs ys ((xs.length : Int) - (j : Int)) ∧ ¬ bad xs ys ((xs.length : Int) - (j : Int))) (fun x => xs.length - x.1) (0, List.replicate xs.length 0) ⟨Nat.zero_le _, by simp, fun j hj => absurd hj (Nat.not_lt_zero _)⟩ ?_ ?_
      · repeat' (first
          | exact trivial | exact rfl
          | exact pureL_ints _ _ | exact Or.inl (And.intro rfl rfl)
          | exact le_ints (rep_ints _ _) | refine And.intro ?_ ?_
          | exact Nat.le_of_ble_eq_true rfl)
      · rintro ⟨k, ws⟩ ⟨hk, hl, hall⟩
        have hk : k ≤ xs.length := hk
        have hl : ws.length = xs.length := hl
        have hall : ∀ j, j < k → ws.getD j 0 = jn xs ys ((xs.length : Int) - (j : Int)) ∧ ¬ bad xs ys ((xs.length : Int) - (j : Int)) := hall
        have hw : IntKind.i64.wrap ((xs.length : Int) - (k : Int)) = (xs.length : Int) - (k : Int) := IntWalk.i64_in _ (by omega)
        have hfail : k < xs.length → (bx xs (IntKind.i64.wrap ((xs.length : Int) - (k : Int))) ≠ bx ys (IntKind.i64.wrap ((xs.length : Int) - (k : Int))) ∧ bx xs (IntKind.i64.wrap ((xs.length : Int) - (k : Int))) ≠ 1 ∧ bx ys (IntKind.i64.wrap ((xs.length : Int) - (k : Int))) ≠ 1) → jL xs ys = [] ∧ false = jOk xs ys := fun h1 h2 => j_f (fun h => h.2.2 k (by rw [hN]; exact h1) (by rw [hN]; rw [hw] at h2; exact h2))
        have hstep : ∀ z, k < xs.length → z = jn xs ys (IntKind.i64.wrap ((xs.length : Int) - (k : Int))) → ¬ (bx xs (IntKind.i64.wrap ((xs.length : Int) - (k : Int))) ≠ bx ys (IntKind.i64.wrap ((xs.length : Int) - (k : Int))) ∧ bx xs (IntKind.i64.wrap ((xs.length : Int) - (k : Int))) ≠ 1 ∧ bx ys (IntKind.i64.wrap ((xs.length : Int) - (k : Int))) ≠ 1) → k + 1 ≤ xs.length ∧ (ws.set k z).length = xs.length ∧ ∀ j, j < k + 1 → (ws.set k z).getD j 0 = jn xs ys ((xs.length : Int) - (j : Int)) ∧ ¬ bad xs ys ((xs.length : Int) - (j : Int)) := fun z h1 h2 h3 => by
          rw [hw] at h2 h3
          refine ⟨h1, by simpa using hl, fun j hj => ?_⟩
          rw [getD_set (by omega)]
          split
          · rename_i e; subst e; exact ⟨h2, h3⟩
          · exact hall j (by omega)
        have hend : k = xs.length → jL xs ys = ws ∧ true = jOk xs ys := fun e => by
          have e1 : ws = joined xs ys := getD_ext (by rw [joined_length, hN, hl]) fun j hj => by
            rw [joined_length, hN] at hj
            rw [(hall j (by omega)).1, joined_getD (by rw [hN]; exact hj), hN]
          rw [e1]
          exact j_t hx hy (fun j hj => by rw [hN] at hj ⊢; exact (hall j (by omega)).2)
        clear hall
        conv => whnf
        repeat' (first
          | ((first | refine aIf_t ?_ | refine aIf_f ?_ | refine And.intro (by omega) ?_ | refine callG_t ?_ | refine append_same ?_ | refine And.intro (pureL_ints _ _) ?_ | refine sizeBefore_call (by omega) ?_ | refine And.intro rfl (And.intro rfl (And.intro (by first | omega | (rw [List.length_map]; omega)) ?_)) | refine set_nat ?_ (by omega)); conv => whnf) | refine aIf_eqt ?_
          | refine aIf_not ?_ | (refine aIf_dec (fun _ => ?_) (fun _ => ?_) <;> conv => whnf))
        all_goals (first
          | exact j_end (hfail (by omega) (And.intro (by assumption) (And.intro (by assumption) (by assumption)))) rfl rfl rfl rfl
          | (refine next_in (k + 1, ws.set k (bx ys (IntKind.i64.wrap ((xs.length : Int) - (k : Int))))) (show xs.length - (k + 1) < xs.length - k by omega) (hstep _ (by omega) (if_pos (by assumption)).symm (by first | exact fun h => h.1 (by assumption) | exact fun h => h.2.1 (by assumption) | exact fun h => h.2.2 (by assumption))) ?_
             repeat' (first
               | exact trivial | exact rfl
               | exact pureL_ints _ _ | exact Or.inl (And.intro rfl rfl)
               | exact le_ints rfl | refine And.intro ?_ ?_
               | exact Nat.le_of_ble_eq_true rfl | exact int_eq (by omega)
               | exact int_eq (by rw [IntWalk.i64_in _ (by omega)] <;> omega))
             done)
          | (refine next_in (k + 1, ws.set k (bx xs (IntKind.i64.wrap ((xs.length : Int) - (k : Int))))) (show xs.length - (k + 1) < xs.length - k by omega) (hstep _ (by omega) (if_neg (by assumption)).symm (by first | exact fun h => h.1 (by assumption) | exact fun h => h.2.1 (by assumption) | exact fun h => h.2.2 (by assumption))) ?_
             repeat' (first
               | exact trivial | exact rfl
               | exact pureL_ints _ _ | exact Or.inl (And.intro rfl rfl)
               | exact le_ints rfl | refine And.intro ?_ ?_
               | exact Nat.le_of_ble_eq_true rfl | exact int_eq (by rw [IntWalk.i64_in _ (by omega)] <;> omega))
             done)
          | (have e : k = xs.length := by omega
             exact j_end (hend e) rfl rfl rfl hl.symm))
    all_goals (exfalso; simp_all; done)
  · conv => whnf
    repeat' (first
      | ((first | refine aIf_t ?_ | refine aIf_f ?_ | refine fun (_ : _ ≤ maxLen) => ?_ | refine callG_t ?_ | refine append_same ?_ | refine And.intro (pureL_ints _ _) ?_ | refine iShapeOk_call ?_); conv => whnf) | refine aIf_eqf ?_
      | refine aIf_not ?_ | (refine aIf_dec (fun _ => ?_) (fun _ => ?_) <;> conv => whnf)
      | (refine aIf_in (fun _ => ?_) (fun _ => ?_) <;> conv => whnf))
    all_goals (first
      | exact j_end (j_f (fun h => hs ⟨h.1, h.2.1⟩)) rfl rfl rfl rfl
      | exact absurd ⟨by assumption, by assumption⟩ hs)
end Go.Proofs.YtjmdhfjemaoebaaGreat
namespace Go.Proofs.YtjmdhfjemaoebaaGreat
set_option maxRecDepth 20000
open Go.RowKit Go.Am
attribute [local irreducible] aPlan aGet aIf aLoop aCall RetB NextB CallB CallG aCut aSet aAppend
set_option maxHeartbeats 4000000 in
set_option maxRecDepth 10000 in
theorem l1Join_sound : Sound Tryz.prog 142 (fnLB (ι := Nat × List Int × Nat × List Int) 3 (fun | (c, xs, d, ys) => [.sl c xs.length (xs.map (.int .i64)), .sl d ys.length (ys.map (.int .i64))]) (fun | (_, xs, _, ys) => shapeOk xs = true ∧ shapeOk ys = true) (fun | (_, xs, _, ys) => jL xs ys) (fun | (_, xs, _, ys) => jOk xs ys)) := by
  refine sound_of Tryz.func142 rfl (enters_of Tryz.func142 (by kernel_rfl) (by kernel_rfl)) ?_
  rintro ⟨c, xs, d, ys⟩ ⟨hx, hy⟩
  have hlx := ((shapeOk_iff xs).1 hx).1
  have hly := ((shapeOk_iff ys).1 hy).1
  conv => whnf
  repeat' (first
    | ((first | refine fun (_ : _ ≤ maxLen) => ?_ | refine And.intro (And.intro (Int.le_refl _) (And.intro (by kernel_rfl) (And.intro rfl (by kernel_rfl)))) (And.intro (And.intro (by omega) (And.intro (bytes_le (b := 8) rfl (by omega)) (by omega))) ?_) | refine append_same ?_); conv => whnf) | (refine aIf_dec (fun _ => ?_) (fun _ => ?_) <;> conv => whnf))
  · have hN : jN xs ys = ys.length := by unfold jN; omega
    have hw1 : IntKind.i64.wrap ((ys.length : Int) - 1) = (ys.length : Int) - 1 := IntWalk.i64_in _ (by omega)
    refine loop_in (ι := Nat × List Int) (fun | (k, ws) => ⟨[.sl c xs.length (xs.map (.int .i64)), .sl d ys.length (ys.map (.int .i64)), .un, .un, .un, .un, .int .i64 ys.length, .ref 1 2 0 ys.length, .int .i64 k, .un, .un, .un, .un, .un, .un, .un, .un, .un, .un, .un, .un, .un, .un, .un, .un, .un, .un, .un, .un, .un, .un, .un, .un, .un, .un, .un, .un, .un, .un, .un, .un, .un, .un, .un, .un, .un, .un, .un, .un, .un, .un, .un, .un, .un, .un], [⟨1, 3, 1, []⟩, ⟨2, 3, 1, ws.map (.int .i64)⟩], 3, 0⟩)
      (fun x => x.1 ≤ ys.length ∧ x.2.length = ys.length ∧ ∀ j, ys.length - x.1 ≤ j → j < ys.length → x.2.getD j 0 = jn xs ys ((ys.length : Int) - (j : Int)) ∧ ¬ bad xs ys ((ys.length : Int) - (j : Int))) (fun x => ys.length - x.1) (0, List.replicate ys.length 0) ⟨Nat.zero_le _, by simp, fun j h1 h2 => absurd h1 (by simp only [Nat.sub_zero]; omega)⟩ ?_ ?_
    · repeat' (first
        | exact trivial | exact rfl
        | exact pureL_ints _ _ | exact Or.inl (And.intro rfl rfl)
        | exact le_ints (rep_ints _ _) | refine And.intro ?_ ?_
        | exact Nat.le_of_ble_eq_true rfl)
    · rintro ⟨k, ws⟩ ⟨hk, hl, hall⟩
      have hk : k ≤ ys.length := hk
      have hl : ws.length = ys.length := hl
      have hall : ∀ j, ys.length - k ≤ j → j < ys.length → ws.getD j 0 = jn xs ys ((ys.length : Int) - (j : Int)) ∧ ¬ bad xs ys ((ys.length : Int) - (j : Int)) := hall
      have hw2 : k < ys.length → IntKind.i64.wrap (IntKind.i64.wrap ((ys.length : Int) - 1) - (k : Int)) = (ys.length : Int) - 1 - (k : Int) := fun h => by rw [hw1]; exact IntWalk.i64_in _ (by omega)
      have hfail : k < ys.length → (bx xs ((k : Int) + 1) ≠ bx ys ((k : Int) + 1) ∧ bx xs ((k : Int) + 1) ≠ 1 ∧ bx ys ((k : Int) + 1) ≠ 1) → jL xs ys = [] ∧ false = jOk xs ys := fun h1 h2 => j_f (fun h => h.2.2 (ys.length - 1 - k) (by rw [hN]; omega) (by
        rw [hN, show ((ys.length : Int) - ((ys.length - 1 - k : Nat) : Int)) = (k : Int) + 1 by omega]; exact h2))
      have hstep : ∀ z, k < ys.length → z = jn xs ys ((k : Int) + 1) → ¬ (bx xs ((k : Int) + 1) ≠ bx ys ((k : Int) + 1) ∧ bx xs ((k : Int) + 1) ≠ 1 ∧ bx ys ((k : Int) + 1) ≠ 1) → k + 1 ≤ ys.length ∧ (ws.set (IntKind.i64.wrap (IntKind.i64.wrap ((ys.length : Int) - 1) - (k : Int))).toNat z).length = ys.length ∧ ∀ j, ys.length - (k + 1) ≤ j → j < ys.length → (ws.set (IntKind.i64.wrap (IntKind.i64.wrap ((ys.length : Int) - 1) - (k : Int))).toNat z).getD j 0 = jn xs ys ((ys.length : Int) - (j : Int)) ∧ ¬ bad xs ys ((ys.length : Int) - (j : Int)) := fun z h1 h2 h3 => by
        have hi : (IntKind.i64.wrap (IntKind.i64.wrap ((ys.length : Int) - 1) - (k : Int))).toNat = ys.length - 1 - k := by rw [hw2 h1]; omega
        rw [hi]
        refine ⟨h1, by simpa using hl, fun j hj hj' => ?_⟩
        rw [getD_set (by omega)]
        split
        · rename_i e
          have e' : (ys.length : Int) - (j : Int) = (k : Int) + 1 := by omega
          rw [e']; exact ⟨h2, h3⟩
        · exact hall j (by omega) hj'
      have hend : k = ys.length → jL xs ys = ws ∧ true = jOk xs ys := fun e => by
        have e1 : ws = joined xs ys := getD_ext (by rw [joined_length, hN, hl]) fun j hj => by
          rw [joined_length, hN] at hj
          rw [(hall j (by omega) hj).1, joined_getD (by rw [hN]; exact hj), hN]
        rw [e1]
        exact j_t hx hy (fun j hj => by rw [hN] at hj ⊢; exact (hall j (by omega) hj).2)
      clear hall
      by_cases hkN : k < ys.length
      · have hw2 := hw2 hkN
        conv => whnf
        repeat' (first
          | ((first | refine aIf_t ?_ | refine aIf_f ?_ | refine And.intro (by omega) ?_ | refine callG_t ?_ | refine append_same ?_ | refine And.intro (pureL_ints _ _) ?_ | refine l1Axis_call (by omega) ?_ | refine And.intro rfl (And.intro rfl (And.intro (by first | omega | (rw [List.length_map]; omega)) ?_)) | refine set_nat ?_ (by omega) | refine set_int ?_ (by omega)); conv => whnf) | refine aIf_eqt ?_
          | refine aIf_not ?_ | (refine aIf_dec (fun _ => ?_) (fun _ => ?_) <;> conv => whnf))
        all_goals (first
        | exact j_end (hfail (by omega) (And.intro (by assumption) (And.intro (by assumption) (by assumption)))) rfl rfl rfl rfl
        | (refine next_in (k + 1, ws.set (IntKind.i64.wrap (IntKind.i64.wrap ((ys.length : Int) - 1) - (k : Int))).toNat (bx ys ((k : Int) + 1))) (show ys.length - (k + 1) < ys.length - k by omega) (hstep _ (by omega) (if_pos (by assumption)).symm (by first | exact fun h => h.1 (by assumption) | exact fun h => h.2.1 (by assumption) | exact fun h => h.2.2 (by assumption))) ?_
           repeat' (first
             | exact trivial | exact rfl
             | exact pureL_ints _ _ | exact Or.inl (And.intro rfl rfl)
             | exact le_ints rfl | refine And.intro ?_ ?_
             | exact Nat.le_of_ble_eq_true rfl | exact int_eq (by omega)
             | exact int_eq (by rw [IntWalk.i64_in _ (by omega)] <;> omega))
           done)
        | (refine next_in (k + 1, ws.set (IntKind.i64.wrap (IntKind.i64.wrap ((ys.length : Int) - 1) - (k : Int))).toNat (bx xs ((k : Int) + 1))) (show ys.length - (k + 1) < ys.length - k by omega) (hstep _ (by omega) (if_neg (by assumption)).symm (by first | exact fun h => h.1 (by assumption) | exact fun h => h.2.1 (by assumption) | exact fun h => h.2.2 (by assumption))) ?_
           repeat' (first
             | exact trivial | exact rfl
             | exact pureL_ints _ _ | exact Or.inl (And.intro rfl rfl)
             | exact le_ints rfl | refine And.intro ?_ ?_
             | exact Nat.le_of_ble_eq_true rfl | exact int_eq (by rw [IntWalk.i64_in _ (by omega)] <;> omega))
           done)
        | (exfalso; omega))
      · conv => whnf
        repeat' (first
          | ((first | refine aIf_t ?_ | refine aIf_f ?_ | refine And.intro (by omega) ?_ | refine callG_t ?_ | refine append_same ?_ | refine l1Axis_call (by omega) ?_ | refine set_nat ?_ (by omega)); conv => whnf) | refine aIf_eqt ?_
          | refine aIf_not ?_ | (refine aIf_dec (fun _ => ?_) (fun _ => ?_) <;> conv => whnf))
        all_goals (first
        | (exfalso; omega) | exact j_end (hend (by omega)) rfl rfl rfl hl.symm)
  · have hN : jN xs ys = xs.length := by unfold jN; omega
    have hw1 : IntKind.i64.wrap ((xs.length : Int) - 1) = (xs.length : Int) - 1 := IntWalk.i64_in _ (by omega)
    refine loop_in (ι := Nat × List Int) (fun | (k, ws) => ⟨[.sl c xs.length (xs.map (.int .i64)), .sl d ys.length (ys.map (.int .i64)), .un, .un, .un, .un, .int .i64 xs.length, .ref 1 2 0 xs.length, .int .i64 k, .un, .un, .un, .un, .un, .un, .un, .un, .un, .un, .un, .un, .un, .un, .un, .un, .un, .un, .un, .un, .un, .un, .un, .un, .un, .un, .un, .un, .un, .un, .un, .un, .un, .un, .un, .un, .un, .un, .un, .un, .un, .un, .un, .un, .un, .un], [⟨1, 3, 1, []⟩, ⟨2, 3, 1, ws.map (.int .i64)⟩], 3, 0⟩)
      (fun x => x.1 ≤ xs.length ∧ x.2.length = xs.length ∧ ∀ j, xs.length - x.1 ≤ j → j < xs.length → x.2.getD j 0 = jn xs ys ((xs.length : Int) - (j : Int)) ∧ ¬ bad xs ys ((xs.length : Int) - (j : Int))) (fun x => xs.length - x.1) (0, List.replicate xs.length 0) ⟨Nat.zero_le _, by simp, fun j h1 h2 => absurd h1 (by simp only [Nat.sub_zero]; omega)⟩ ?_ ?_
    · repeat' (first
        | exact trivial | exact rfl
        | exact pureL_ints _ _ | exact Or.inl (And.intro rfl rfl)
        | exact le_ints (rep_ints _ _) | refine And.intro ?_ ?_
        | exact Nat.le_of_ble_eq_true rfl)
    · rintro ⟨k, ws⟩ ⟨hk, hl, hall⟩
      have hk : k ≤ xs.length := hk
      have hl : ws.length = xs.length := hl
      have hall : ∀ j, xs.length - k ≤ j → j < xs.length → ws.getD j 0 = jn xs ys ((xs.length : Int) - (j : Int)) ∧ ¬ bad xs ys ((xs.length : Int) - (j : Int)) := hall
      have hw2 : k < xs.length → IntKind.i64.wrap (IntKind.i64.wrap ((xs.length : Int) - 1) - (k : Int)) = (xs.length : Int) - 1 - (k : Int) := fun h => by rw [hw1]; exact IntWalk.i64_in _ (by omega)
      have hfail : k < xs.length → (bx xs ((k : Int) + 1) ≠ bx ys ((k : Int) + 1) ∧ bx xs ((k : Int) + 1) ≠ 1 ∧ bx ys ((k : Int) + 1) ≠ 1) → jL xs ys = [] ∧ false = jOk xs ys := fun h1 h2 => j_f (fun h => h.2.2 (xs.length - 1 - k) (by rw [hN]; omega) (by
        rw [hN, show ((xs.length : Int) - ((xs.length - 1 - k : Nat) : Int)) = (k : Int) + 1 by omega]; exact h2))
      have hstep : ∀ z, k < xs.length → z = jn xs ys ((k : Int) + 1) → ¬ (bx xs ((k : Int) + 1) ≠ bx ys ((k : Int) + 1) ∧ bx xs ((k : Int) + 1) ≠ 1 ∧ bx ys ((k : Int) + 1) ≠ 1) → k + 1 ≤ xs.length ∧ (ws.set (IntKind.i64.wrap (IntKind.i64.wrap ((xs.length : Int) - 1) - (k : Int))).toNat z).length = xs.length ∧ ∀ j, xs.length - (k + 1) ≤ j → j < xs.length → (ws.set (IntKind.i64.wrap (IntKind.i64.wrap ((xs.length : Int) - 1) - (k : Int))).toNat z).getD j 0 = jn xs ys ((xs.length : Int) - (j : Int)) ∧ ¬ bad xs ys ((xs.length : Int) - (j : Int)) := fun z h1 h2 h3 => by
        have hi : (IntKind.i64.wrap (IntKind.i64.wrap ((xs.length : Int) - 1) - (k : Int))).toNat = xs.length - 1 - k := by rw [hw2 h1]; omega
        rw [hi]
        refine ⟨h1, by simpa using hl, fun j hj hj' => ?_⟩
        rw [getD_set (by omega)]
        split
        · rename_i e
          have e' : (xs.length : Int) - (j : Int) = (k : Int) + 1 := by omega
          rw [e']; exact ⟨h2, h3⟩
        · exact hall j (by omega) hj'
      have hend : k = xs.length → jL xs ys = ws ∧ true = jOk xs ys := fun e => by
        have e1 : ws = joined xs ys := getD_ext (by rw [joined_length, hN, hl]) fun j hj => by
          rw [joined_length, hN] at hj
          rw [(hall j (by omega) hj).1, joined_getD (by rw [hN]; exact hj), hN]
        rw [e1]
        exact j_t hx hy (fun j hj => by rw [hN] at hj ⊢; exact (hall j (by omega) hj).2)
      clear hall
      by_cases hkN : k < xs.length
      · have hw2 := hw2 hkN
        conv => whnf
        repeat' (first
          | ((first | refine aIf_t ?_ | refine aIf_f ?_ | refine And.intro (by omega) ?_ | refine callG_t ?_ | refine append_same ?_ | refine And.intro (pureL_ints _ _) ?_ | refine l1Axis_call (by omega) ?_ | refine And.intro rfl (And.intro rfl (And.intro (by first | omega | (rw [List.length_map]; omega)) ?_)) | refine set_nat ?_ (by omega) | refine set_int ?_ (by omega)); conv => whnf) | refine aIf_eqt ?_
          | refine aIf_not ?_ | (refine aIf_dec (fun _ => ?_) (fun _ => ?_) <;> conv => whnf))
        all_goals (first
        | exact j_end (hfail (by omega) (And.intro (by assumption) (And.intro (by assumption) (by assumption)))) rfl rfl rfl rfl
        | (refine next_in (k + 1, ws.set (IntKind.i64.wrap (IntKind.i64.wrap ((xs.length : Int) - 1) - (k : Int))).toNat (bx ys ((k : Int) + 1))) (show xs.length - (k + 1) < xs.length - k by omega) (hstep _ (by omega) (if_pos (by assumption)).symm (by first | exact fun h => h.1 (by assumption) | exact fun h => h.2.1 (by assumption) | exact fun h => h.2.2 (by assumption))) ?_
           repeat' (first
             | exact trivial | exact rfl
             | exact pureL_ints _ _ | exact Or.inl (And.intro rfl rfl)
             | exact le_ints rfl | refine And.intro ?_ ?_
             | exact Nat.le_of_ble_eq_true rfl | exact int_eq (by omega)
             | exact int_eq (by rw [IntWalk.i64_in _ (by omega)] <;> omega))
           done)
        | (refine next_in (k + 1, ws.set (IntKind.i64.wrap (IntKind.i64.wrap ((xs.length : Int) - 1) - (k : Int))).toNat (bx xs ((k : Int) + 1))) (show xs.length - (k + 1) < xs.length - k by omega) (hstep _ (by omega) (if_neg (by assumption)).symm (by first | exact fun h => h.1 (by assumption) | exact fun h => h.2.1 (by assumption) | exact fun h => h.2.2 (by assumption))) ?_
           repeat' (first
             | exact trivial | exact rfl
             | exact pureL_ints _ _ | exact Or.inl (And.intro rfl rfl)
             | exact le_ints rfl | refine And.intro ?_ ?_
             | exact Nat.le_of_ble_eq_true rfl | exact int_eq (by rw [IntWalk.i64_in _ (by omega)] <;> omega))
           done)
        | (exfalso; omega))
      · conv => whnf
        repeat' (first
          | ((first | refine aIf_t ?_ | refine aIf_f ?_ | refine And.intro (by omega) ?_ | refine callG_t ?_ | refine append_same ?_ | refine l1Axis_call (by omega) ?_ | refine set_nat ?_ (by omega)); conv => whnf) | refine aIf_eqt ?_
          | refine aIf_not ?_ | (refine aIf_dec (fun _ => ?_) (fun _ => ?_) <;> conv => whnf))
        all_goals (first
        | (exfalso; omega) | exact j_end (hend (by omega)) rfl rfl rfl hl.symm)
theorem jL_le6 (xs ys : List Int) : (jL xs ys).length ≤ 6 := by
  by_cases h : jOk xs ys = true
  · have h' := (jOk_iff xs ys).1 h
    have h1 := ((shapeOk_iff xs).1 h'.1).1
    have h2 := ((shapeOk_iff ys).1 h'.2.1).1
    have := jL_le xs ys
    omega
  · unfold jL; rw [if_neg h]; exact Nat.zero_le _
theorem l1Join_call {c d : Nat} {xs ys : List Int} {env : List AV} {rows : List Row} {ctr low : Nat} {k : AV → St → Prop} (hpre : shapeOk xs = true ∧ shapeOk ys = true) (hk : k (.tup [.ref rows.length ctr 0 (jL xs ys).length, .bool (jOk xs ys)]) ⟨env, rows ++ [⟨ctr, 3, 1, (jL xs ys).map (.int .i64)⟩], ctr + 1, low⟩) :
    CallB Tryz.prog 142 ⟨env, rows, ctr, low⟩ [.sl c xs.length (xs.map (.int .i64)), .sl d ys.length (ys.map (.int .i64))] k := callLB_in l1Join_sound (c, xs, d, ys) hpre hk
theorem iJoin_call {c d : Nat} {xs ys : List Int} {env : List AV} {rows : List Row} {ctr low : Nat} {k : AV → St → Prop} (hk : k (.tup [.ref rows.length ctr 0 (jL xs ys).length, .bool (jOk xs ys)]) ⟨env, rows ++ [⟨ctr, 3, 1, (jL xs ys).map (.int .i64)⟩], ctr + 1, low⟩) :
    CallB Tryz.prog 188 ⟨env, rows, ctr, low⟩ [.sl c xs.length (xs.map (.int .i64)), .sl d ys.length (ys.map (.int .i64))] k := callLB_in iJoin_sound (c, xs, d, ys) trivial hk
end Go.Proofs.YtjmdhfjemaoebaaGreat
