import Derived.Test.YtjmdhfjemaoebaaGreatM01x15
import Derived.Test.YtjmdhfjemaoebaaGreatM01x19
namespace Go.Proofs.YtjmdhfjemaoebaaGreat
set_option maxRecDepth 20000
open Go.RowKit Go.Am
attribute [local irreducible] aPlan aGet aIf aLoop aCall RetB NextB CallB CallG aCut aSet aAppend
end Go.Proofs.YtjmdhfjemaoebaaGreat
namespace Go.Proofs.YtjmdhfjemaoebaaGreat
set_option maxRecDepth 20000
open Go.RowKit Go.Am
attribute [local irreducible] aPlan aGet aIf aLoop aCall RetB NextB CallB CallG aCut aSet aAppend
def sst (xs ys : List Int) : List Int := (List.range ys.length).map fun j => if ys.length - xs.length ≤ j ∧ 1 < xs.getD (j - (ys.length - xs.length)) 0 then (strides xs).getD (j - (ys.length - xs.length)) 0 else 0
theorem sst_length (xs ys : List Int) : (sst xs ys).length = ys.length := by simp [sst]
theorem sst_getD {xs ys : List Int} {j : Nat} (h : j < ys.length) : (sst xs ys).getD j 0 = if ys.length - xs.length ≤ j ∧ 1 < xs.getD (j - (ys.length - xs.length)) 0 then (strides xs).getD (j - (ys.length - xs.length)) 0 else 0 := range_getD h
theorem sst_in {xs ys : List Int} (hs : shapeOk xs = true) (hl : xs.length ≤ ys.length) {j : Nat} (hj : j < ys.length) : 0 ≤ (sst xs ys).getD j 0 ∧ (sst xs ys).getD j 0 ≤ 64 := by
  rw [sst_getD hj]
  split
  · rename_i h
    have := strides_in hs (j := j - (ys.length - xs.length)) (by omega)
    omega
  · omega
theorem sst_dot0 {xs ys ps : List Int} (hl : xs.length ≤ ys.length) : ∀ k, k ≤ ys.length - xs.length → dotTo ps (sst xs ys) k = 0
  | 0, _ => rfl
  | k + 1, hk => by
    have ih := sst_dot0 (ps := ps) hl k (by omega)
    show dotTo ps (sst xs ys) k + _ = 0
    rw [ih]
    by_cases h : k < ys.length
    · rw [sst_getD h, if_neg (by omega), Int.mul_zero]; rfl
    · omega
theorem sst_dot {xs ys : List Int} {i : Int} (hl : xs.length ≤ ys.length) : ∀ k, k ≤ xs.length → dotTo (places ys i) (sst xs ys) (ys.length - xs.length + k) = dotTo (px xs ys i) (strides xs) k
  | 0, _ => sst_dot0 hl _ (Nat.le_refl _)
  | k + 1, hk => by
    have ih := sst_dot (i := i) hl k (by omega)
    have e1 : dotTo (places ys i) (sst xs ys) (ys.length - xs.length + (k + 1)) = dotTo (places ys i) (sst xs ys) (ys.length - xs.length + k) + (places ys i).getD (ys.length - xs.length + k) 0 * (sst xs ys).getD (ys.length - xs.length + k) 0 := rfl
    have e2 : dotTo (px xs ys i) (strides xs) (k + 1) = dotTo (px xs ys i) (strides xs) k + (px xs ys i).getD k 0 * (strides xs).getD k 0 := rfl
    rw [e1, e2, ih, sst_getD (by omega), px_getD (by omega), show ys.length - xs.length + k - (ys.length - xs.length) = k by omega]
    by_cases h : 1 < xs.getD k 0
    · rw [if_pos ⟨by omega, h⟩, if_pos h]
    · rw [if_neg (fun h' => h h'.2), if_neg h, Int.mul_zero, Int.zero_mul]
theorem sp_all {xs ys : List Int} (h : jOk xs ys = true) (h' : jL xs ys = ys) {i : Nat} (hi : (i : Int) < cntTo ys ys.length) : spOk xs ys i := ⟨h, h', by omega, hi⟩
theorem sp_rd {xs ys : List Int} (h : jOk xs ys = true) (h' : jL xs ys = ys) {i : Nat} (hi : (i : Int) < cntTo ys ys.length) : rdAt ys (sst xs ys) 0 i = idxTo xs (px xs ys i) xs.length ∧ 0 ≤ idxTo xs (px xs ys i) xs.length ∧ idxTo xs (px xs ys i) xs.length < cntTo xs xs.length := by
  have hsp := sp_all h h' hi
  obtain ⟨a1, a2, a3, a4⟩ := sp_ok hsp
  have hp : ∀ j, j < xs.length → 0 ≤ (px xs ys i).getD j 0 ∧ (px xs ys i).getD j 0 < xs.getD j 0 := fun j hj => ⟨(px_in hsp hj).1, (px_in hsp hj).2.1⟩
  refine ⟨?_, idx_range a1 hp _ (Nat.le_refl _)⟩
  have e := sst_dot (i := i) a3 xs.length (Nat.le_refl _)
  rw [show ys.length - xs.length + xs.length = ys.length by omega] at e
  show 0 + dotTo (places ys i) (sst xs ys) ys.length = _
  rw [e, idx_dot a1 hp, Int.zero_add]
def sSteps : CSpec := fnL (ι := Nat × List Int × Nat × List Int) 3 (fun | (c, xs, d, ys) => [.sl c xs.length (xs.map (.int .i64)), .sl d ys.length (ys.map (.int .i64))]) (fun | (_, xs, _, ys) => shapeOk xs = true ∧ ys.length ≤ 3 ∧ xs.length ≤ ys.length) (fun | (_, xs, _, ys) => sst xs ys)
set_option maxHeartbeats 4000000 in
set_option maxRecDepth 10000 in
theorem spreadSteps_sound : Sound Tryz.prog 180 sSteps := by
  refine sound_of Tryz.func180 rfl (enters_of Tryz.func180 (by kernel_rfl) (by kernel_rfl)) ?_
  rintro ⟨c, xs, d, ys⟩ hpre
  have hpre : shapeOk xs = true ∧ ys.length ≤ 3 ∧ xs.length ≤ ys.length := hpre
  obtain ⟨hs, hy, hxy⟩ := hpre
  have hso : stridesOf xs = strides xs := if_pos hs
  have hsl : (stridesOf xs).length = xs.length := by rw [hso, strides_length]
  have hmax : maxLen = 9223372036854775807 := rfl
  conv => whnf
  repeat' (first
    | ((first | refine fun (_ : _ ≤ maxLen) => ?_ | refine And.intro (And.intro (Int.le_refl _) (And.intro (by kernel_rfl) (And.intro rfl (by kernel_rfl)))) (And.intro (And.intro (by omega) (And.intro (bytes_le (b := 8) rfl (by omega)) (by omega))) ?_) | refine callG_t ?_ | refine append_same ?_ | refine And.intro (pureL_ints _ _) ?_ | refine iStridesOf_call (by omega) ?_); conv => whnf))
  refine loop_in (ι := Nat × List Int) (fun | (k, ws) => ⟨[.un, .un, .un, .un, .un, .ref 1 2 0 (stridesOf xs).length, .ref 2 3 0 ys.length, .int .i64 (ys.length - xs.length), .un, .un, .un, .un, .un, .un, .un, .un, .un, .un, .un, .un, .sl c xs.length (xs.map (.int .i64)), .int .i64 xs.length, .int .i64 k, .un, .un, .un, .un, .un, .un, .un, .un, .un, .un, .un, .un, .un, .un, .un, .un, .un], [nl 1, li 2 (stridesOf xs), li 3 ws], 4, 0⟩)
    (fun x => x.1 ≤ xs.length ∧ x.2.length = ys.length ∧ ∀ j, j < ys.length → x.2.getD j 0 = if j < ys.length - xs.length + x.1 then (sst xs ys).getD j 0 else 0) (fun x => xs.length - x.1) (0, List.replicate ys.length 0) ⟨Nat.zero_le _, by simp, fun j hj => ?_⟩ ?_ ?_
  · show (List.replicate ys.length (0 : Int)).getD j 0 = if j < ys.length - xs.length + 0 then (sst xs ys).getD j 0 else 0
    have e : (List.replicate ys.length (0 : Int)).getD j 0 = 0 := by simp [List.getD, hj]
    rw [e]
    split
    · rw [sst_getD hj, if_neg (by omega)]
    · rfl
  · repeat' (first
      | exact trivial | exact rfl
      | exact pureL_ints _ _ | exact Or.inl (And.intro rfl rfl)
      | exact le_ints rfl | exact le_ints (rep_ints _ _)
      | refine And.intro ?_ ?_ | exact Nat.le_of_ble_eq_true rfl
      | exact int_eq (by rw [IntWalk.i64_in _ (by omega)] <;> omega))
  · rintro ⟨k, ws⟩ ⟨hk, hl, hall⟩
    have hk : k ≤ xs.length := hk
    have hl : ws.length = ys.length := hl
    have hall : ∀ j, j < ys.length → ws.getD j 0 = if j < ys.length - xs.length + k then (sst xs ys).getD j 0 else 0 := hall
    have hw : IntKind.i64.wrap ((ys.length : Int) - xs.length + k) = ys.length - xs.length + k := IntWalk.i64_in _ (by omega)
    have ew : (IntKind.i64.wrap ((ys.length : Int) - xs.length + k)).toNat = ys.length - xs.length + k := by omega
    conv => whnf
    repeat' (first
      | ((first | refine get_nat0 (by omega) ?_ | refine get_nat (by omega) ?_ | refine And.intro (by omega) ?_ | refine append_same ?_ | refine And.intro rfl (And.intro rfl (And.intro (by first | omega | (rw [List.length_map]; omega)) ?_)) | refine set_int ?_ (by omega)); conv => whnf) | (refine aIf_dec (fun _ => ?_) (fun _ => ?_) <;> conv => whnf))
    · rename_i hlt hx
      rw [ew]
      refine next_in (k + 1, ws.set (ys.length - xs.length + k) ((stridesOf xs).getD k 0)) (show xs.length - (k + 1) < xs.length - k by omega) ⟨(show k + 1 ≤ xs.length by omega), by simpa using hl, fun j hj => ?_⟩ ?_
      · show (ws.set (ys.length - xs.length + k) ((stridesOf xs).getD k 0)).getD j 0 = if j < ys.length - xs.length + (k + 1) then (sst xs ys).getD j 0 else 0
        rw [getD_set (by omega)]
        split
        · rename_i e
          subst e
          rw [if_pos (by omega), sst_getD hj, show ys.length - xs.length + k - (ys.length - xs.length) = k by omega, if_pos ⟨by omega, by omega⟩, hso]
        · rw [hall j hj]
          split
          · rw [if_pos (by omega)]
          · rw [if_neg (by omega)]
      · repeat' (first
          | exact trivial | exact rfl
          | exact pureL_ints _ _ | exact Or.inl (And.intro rfl rfl)
          | exact le_ints rfl | refine And.intro ?_ ?_
          | exact Nat.le_of_ble_eq_true rfl | exact int_eq (by rw [IntWalk.i64_in _ (by omega)] <;> omega))
    · rename_i hlt hx
      refine next_in (k + 1, ws) (show xs.length - (k + 1) < xs.length - k by omega) ⟨(show k + 1 ≤ xs.length by omega), hl, fun j hj => ?_⟩ ?_
      · show ws.getD j 0 = if j < ys.length - xs.length + (k + 1) then (sst xs ys).getD j 0 else 0
        rw [hall j hj]
        by_cases e : j = ys.length - xs.length + k
        · subst e
          rw [if_neg (by omega), if_pos (by omega), sst_getD hj, show ys.length - xs.length + k - (ys.length - xs.length) = k by omega, if_neg (by omega)]
        · split
          · rw [if_pos (by omega)]
          · rw [if_neg (by omega)]
      · repeat' (first
          | exact trivial | exact rfl
          | exact pureL_ints _ _ | exact Or.inl (And.intro rfl rfl)
          | exact le_ints rfl | refine And.intro ?_ ?_
          | exact Nat.le_of_ble_eq_true rfl | exact int_eq (by rw [IntWalk.i64_in _ (by omega)] <;> omega))
    · have e : ws = sst xs ys := getD_ext (by rw [sst_length, hl]) fun j hj => by
        rw [sst_length] at hj
        rw [hall j hj, if_pos (by omega)]
      subst e
      exact retL rfl rfl rfl (sst_length _ _).symm
theorem spreadSteps_call {c d : Nat} {xs ys : List Int} {env : List AV} {rows : List Row} {ctr low : Nat} {k : AV → St → Prop} (hpre : shapeOk xs = true ∧ ys.length ≤ 3 ∧ xs.length ≤ ys.length) (h : k (.ref rows.length ctr 0 (sst xs ys).length) ⟨env, rows ++ [⟨ctr, 3, 1, (sst xs ys).map (.int .i64)⟩], ctr + 1, low⟩) :
    CallB Tryz.prog 180 ⟨env, rows, ctr, low⟩ [.sl c xs.length (xs.map (.int .i64)), .sl d ys.length (ys.map (.int .i64))] k := callL_in spreadSteps_sound (c, xs, d, ys) hpre h
end Go.Proofs.YtjmdhfjemaoebaaGreat
namespace Go.Proofs.YtjmdhfjemaoebaaGreat
set_option maxRecDepth 20000
open Go.RowKit Go.Am
attribute [local irreducible] aPlan aGet aIf aLoop aCall RetB NextB CallB CallG aCut aSet aAppend
def sL2Spread : CSpec := fnT (ι := Nat × List Int × Nat × List Int × Nat × List Int) 3 (fun | (c, xs, d, zs, e, ys) => [.agg [.sl c xs.length (xs.map (.int .i64)), .sl d zs.length (zs.map (.int .i64))], .sl e ys.length (ys.map (.int .i64))]) (fun | (_, xs, _, zs, _, ys) => (zs.length : Int) = cntTo xs xs.length ∧ jOk xs ys = true ∧ jL xs ys = ys) (fun | (_, _, _, _, _, ys) => ys) (fun | (_, xs, _, zs, _, ys) => rdL zs ys (sst xs ys) 0)
set_option maxHeartbeats 4000000 in
set_option maxRecDepth 10000 in
theorem l2Spread_sound : Sound Tryz.prog 148 sL2Spread := by
  refine sound_of Tryz.func148 rfl (enters_of Tryz.func148 (by kernel_rfl) (by kernel_rfl)) ?_
  rintro ⟨c, xs, d, zs, e, ys⟩ hpre
  have hpre : (zs.length : Int) = cntTo xs xs.length ∧ jOk xs ys = true ∧ jL xs ys = ys := hpre
  obtain ⟨t2, j1, j2⟩ := hpre
  obtain ⟨b1, b2⟩ := sp_facts j1 j2
  have b3 := ((shapeOk_iff _).1 b1).1
  have hc := cnt64 b1 (Nat.le_refl _)
  have hmax : maxLen = 9223372036854775807 := rfl
  conv => whnf
  repeat' (first
    | ((first | refine plan_in (id := 5) [0, 1, 2, 3, 4, 5, 6, 7, 8, 9, 10, 11, 12, 13, 14] (by kernel_rfl) (by kernel_rfl) ?_ | refine And.intro rfl (And.intro (List.cons_ne_nil _ _) ?_) | refine And.intro (Nat.le_of_ble_eq_true rfl) ?_ | refine callG_t ?_ | refine l2Nums_call (by omega) ?_ | refine append_same ?_ | refine And.intro (pureL_ints _ _) ?_ | refine set_force ?_ | refine And.intro (by kernel_rfl) ?_); conv => whnf))
  refine loop_in (ι := Nat × List Int) (fun | (k, ws) => ⟨[.un, .sl e ys.length (ys.map (.int .i64)), .ptr 0 1 0, .un, .ptr 3 4 0, .ptr 8 10 0, .int .i64 k, .un, .un, .un, .un, .un, .un, .un, .un, .un, .un, .un, .un, .un, .un, .un, .un, .un, .un, .un, .un, .un, .un, .un, .un], [bt 1 [.sl c xs.length (xs.map (.int .i64)), .sl d zs.length (zs.map (.int .i64))], nl 2, nl 3, bt 4 [.ref 1 2 0 0, .ref 2 3 0 0], li 6 ys, li 7 ws, nl 8, nl 9, bt 10 [.ref 4 6 0 ys.length, .ref 5 7 0 ws.length]], 11, 0⟩)
    (fun x => (x.1 : Int) ≤ cntTo ys ys.length ∧ x.2.length = x.1 ∧ ∀ j, j < x.1 → x.2.getD j 0 = zs.getD (rdAt ys (sst xs ys) 0 j).toNat 0) (fun x => (cntTo ys ys.length).toNat - x.1) (0, []) ⟨(show (0 : Int) ≤ cntTo ys ys.length by omega), rfl, fun j hj => absurd hj (Nat.not_lt_zero _)⟩ ?_ ?_
  · repeat' (first
      | exact trivial | exact rfl
      | exact pureL_ints _ _ | exact Or.inl (And.intro rfl rfl)
      | exact le_ints rfl | exact Or.inl (And.intro (pureL_pair _ _ _ _ _ _) rfl)
      | refine Or.inr ?_ | refine And.intro ?_ ?_
      | exact Nat.le_of_ble_eq_true rfl)
  · rintro ⟨k, ws⟩ ⟨hk, hl, hall⟩
    have hk : (k : Int) ≤ cntTo ys ys.length := hk
    have hl : ws.length = k := hl
    have hall : ∀ j, j < k → ws.getD j 0 = zs.getD (rdAt ys (sst xs ys) 0 j).toNat 0 := hall
    by_cases hlt : (k : Int) < cntTo ys ys.length
    · obtain ⟨c1, c2, c3⟩ := sp_rd j1 j2 hlt
      conv => whnf
      repeat' (first
        | ((first | refine plan_in (id := 5) [0, 1, 2, 3, 4, 5, 6, 7, 8, 9, 10, 11, 12, 13, 14] (by kernel_rfl) (by kernel_rfl) ?_ | refine get_int (by omega) ?_ | refine aGet_in rfl ?_ | refine And.intro (by omega) ?_ | refine load_same ?_ | refine And.intro (Nat.le_of_ble_eq_true rfl) ?_ | refine callG_t ?_ | refine append_same ?_ | refine takeN_in ?_ | refine And.intro (pureL_ints _ _) ?_ | refine l1Count_call ?_ | refine append_int rfl rfl (by first | rfl | (simp only [List.length_take, turned_length]; omega)) (by omega) (Nat.le_of_ble_eq_true rfl) ?_ | refine l1Spread_call (And.intro (by assumption) (by assumption)) ?_ | refine set_force ?_ | refine And.intro (And.intro (by kernel_rfl) (And.intro rfl (Nat.le_of_ble_eq_true rfl))) ?_ | refine And.intro (by kernel_rfl) ?_); conv => whnf) | (refine aIf_dec (fun _ => ?_) (fun _ => ?_) <;> conv => whnf))
      all_goals (first | (exfalso; omega) | skip)
      refine next_in (k + 1, ws ++ [zs.getD (idxTo xs (px xs ys k) xs.length).toNat 0]) (show (cntTo ys ys.length).toNat - (k + 1) < (cntTo ys ys.length).toNat - k by omega) ⟨(show ((k + 1 : Nat) : Int) ≤ cntTo ys ys.length by omega), by simp [hl], fun j hj => ?_⟩ ?_
      · have hj : j < k + 1 := hj
        show (ws ++ [zs.getD (idxTo xs (px xs ys k) xs.length).toNat 0]).getD j 0 = _
        rw [getD_snoc hl hj]
        split
        · rename_i e; rw [e, c1]
        · exact hall j (by omega)
      · repeat' (first
          | exact trivial | exact rfl
          | exact pureL_ints _ _ | exact Or.inl (And.intro rfl rfl)
          | exact le_ints rfl | exact Or.inl (And.intro (pureL_pair _ _ _ _ _ _) rfl)
          | refine Or.inr ?_ | refine And.intro ?_ ?_
          | exact Nat.le_of_ble_eq_true rfl | exact List.length_append
          | exact int_eq (by rw [IntWalk.i64_in _ (by omega)] <;> omega))
    · conv => whnf
      repeat' (first
        | ((first | refine plan_in (id := 5) [0, 1, 2, 3, 4, 5, 6, 7, 8, 9, 10, 11, 12, 13, 14] (by kernel_rfl) (by kernel_rfl) ?_ | refine get_nat (by omega) ?_ | refine aGet_in rfl ?_ | refine And.intro (by omega) ?_ | refine load_same ?_ | refine And.intro (Nat.le_of_ble_eq_true rfl) ?_ | refine callG_t ?_ | refine append_same ?_ | refine takeN_in ?_ | refine And.intro (pureL_ints _ _) ?_ | refine l1Count_call ?_ | refine append_int rfl rfl (by first | rfl | (simp only [List.length_take, turned_length]; omega)) (by omega) (Nat.le_of_ble_eq_true rfl) ?_ | refine l1Spread_call (And.intro (by assumption) (by assumption)) ?_ | refine set_force ?_ | refine And.intro (by kernel_rfl) ?_); conv => whnf) | (refine aIf_dec (fun _ => ?_) (fun _ => ?_) <;> conv => whnf))
      all_goals (first | (exfalso; omega) | skip)
      have e : ws = rdL zs ys (sst xs ys) 0 := getD_ext (by rw [rdL_length]; omega) fun j hj => by
        rw [rdL_length] at hj
        rw [hall j (by omega), rdL_getD hj]
      subst e
      refine retT ?_ ?_ ?_ ?_ ?_
      all_goals (first | exact rfl | decide | (simp; done))
theorem l2SpreadG_call {c d e n : Nat} {xs zs ys : List Int} {env : List AV} {rows : List Row} {ctr low : Nat} {k : AV → St → Prop} (hpre : (zs.length : Int) = cntTo xs xs.length ∧ jOk xs ys = true ∧ jL xs ys = ys) (e1 : n = ys.length)
    (hk : k (.agg [.ref rows.length ctr 0 ys.length, .ref (rows.length + 1) ctr 0 (rdL zs ys (sst xs ys) 0).length]) ⟨env, rows ++ [⟨ctr, 3, 1, ys.map (.int .i64)⟩, ⟨ctr, 3, 1, (rdL zs ys (sst xs ys) 0).map (.int .i64)⟩], ctr + 1, low⟩) :
    CallB Tryz.prog 148 ⟨env, rows, ctr, low⟩ [.agg [.sl c xs.length (xs.map (.int .i64)), .sl d zs.length (zs.map (.int .i64))], .sl e n (ys.map (.int .i64))] k := by
  subst e1
  exact callT_in l2Spread_sound (c, xs, d, zs, e, ys) hpre hk
end Go.Proofs.YtjmdhfjemaoebaaGreat
namespace Go.Proofs.YtjmdhfjemaoebaaGreat
set_option maxRecDepth 20000
open Go.RowKit Go.Am
attribute [local irreducible] aPlan aGet aIf aLoop aCall RetB NextB CallB CallG aCut aSet aAppend
def two (op x y : Int) : Int := if op = 0 then IntKind.i64.wrap (x + y) else if op = 1 then IntKind.i64.wrap (x - y) else if op = 2 then IntKind.i64.wrap (x * y) else if x < y then y else x
theorem two_0 {op x y : Int} (h : op = 0) : two op x y = IntKind.i64.wrap (x + y) := if_pos h
theorem two_1 {op x y : Int} (h0 : ¬ op = 0) (h : op = 1) : two op x y = IntKind.i64.wrap (x - y) := by unfold two; rw [if_neg h0, if_pos h]
theorem two_2 {op x y : Int} (h0 : ¬ op = 0) (h1 : ¬ op = 1) (h : op = 2) : two op x y = IntKind.i64.wrap (x * y) := by unfold two; rw [if_neg h0, if_neg h1, if_pos h]
theorem two_y {op x y : Int} (h0 : ¬ op = 0) (h1 : ¬ op = 1) (h2 : ¬ op = 2) (h : x < y) : two op x y = y := by unfold two; rw [if_neg h0, if_neg h1, if_neg h2, if_pos h]
theorem two_x {op x y : Int} (h0 : ¬ op = 0) (h1 : ¬ op = 1) (h2 : ¬ op = 2) (h : ¬ x < y) : two op x y = x := by unfold two; rw [if_neg h0, if_neg h1, if_neg h2, if_neg h]
theorem two_x' {op x y : Int} (h0 : ¬ op = 0) (h1 : ¬ op = 1) (h2 : ¬ op = 2) (h : y < x) : two op x y = x := two_x h0 h1 h2 (by omega)
theorem two_y' {op x y : Int} (h0 : ¬ op = 0) (h1 : ¬ op = 1) (h2 : ¬ op = 2) (h : ¬ y < x) : two op x y = y := by
  by_cases h' : x < y
  · exact two_y h0 h1 h2 h'
  · rw [two_x h0 h1 h2 h']; omega
def sTwoN : CSpec := fnS (ι := Int × Int × Int) (fun | (op, x, y) => [.int .i64 op, .int .i64 x, .int .i64 y]) (fun _ => True) (fun | (op, x, y) => .int .i64 (two op x y))
set_option maxRecDepth 10000 in
theorem twoNums_sound : Sound Tryz.prog 181 sTwoN := by
  refine sound_of Tryz.func181 rfl (enters_of Tryz.func181 (by kernel_rfl) (by kernel_rfl)) ?_
  rintro ⟨op, x, y⟩ -
  conv => whnf
  repeat' (first
    | (refine append_same ?_; conv => whnf) | (refine aIf_dec (fun _ => ?_) (fun _ => ?_) <;> conv => whnf))
  all_goals (first
    | exact retS rfl (congrArg _ (two_0 (by assumption)).symm) | exact retS rfl (congrArg _ (two_1 (by assumption) (by assumption)).symm)
    | exact retS rfl (congrArg _ (two_2 (by assumption) (by assumption) (by assumption)).symm) | exact retS rfl (congrArg _ (two_y (by assumption) (by assumption) (by assumption) (by assumption)).symm)
    | exact retS rfl (congrArg _ (two_x (by assumption) (by assumption) (by assumption) (by assumption)).symm))
set_option maxRecDepth 10000 in
theorem l2Op_sound : Sound Tryz.prog 149 sTwoN := by
  refine sound_of Tryz.func149 rfl (enters_of Tryz.func149 (by kernel_rfl) (by kernel_rfl)) ?_
  rintro ⟨op, x, y⟩ -
  conv => whnf
  repeat' (first
    | (refine append_same ?_; conv => whnf) | (refine aIf_dec (fun _ => ?_) (fun _ => ?_) <;> conv => whnf))
  all_goals (first
    | exact retS rfl (congrArg _ (two_0 (by assumption)).symm) | exact retS rfl (congrArg _ (two_1 (by assumption) (by assumption)).symm)
    | exact retS rfl (congrArg _ (two_2 (by assumption) (by assumption) (by assumption)).symm) | exact retS rfl (congrArg _ (two_x' (by assumption) (by assumption) (by assumption) (by assumption)).symm)
    | exact retS rfl (congrArg _ (two_y' (by assumption) (by assumption) (by assumption) (by assumption)).symm))
theorem twoNums_call {op x y : Int} {env : List AV} {rows : List Row} {ctr low : Nat} {k : AV → St → Prop} (h : k (.int .i64 (two op x y)) ⟨env, rows, ctr + 1, low⟩) : CallB Tryz.prog 181 ⟨env, rows, ctr, low⟩ [.int .i64 op, .int .i64 x, .int .i64 y] k :=
  callS_in twoNums_sound (op, x, y) trivial rfl h
theorem l2Op_call {op x y : Int} {env : List AV} {rows : List Row} {ctr low : Nat} {k : AV → St → Prop} (h : k (.int .i64 (two op x y)) ⟨env, rows, ctr + 1, low⟩) : CallB Tryz.prog 149 ⟨env, rows, ctr, low⟩ [.int .i64 op, .int .i64 x, .int .i64 y] k :=
  callS_in l2Op_sound (op, x, y) trivial rfl h
def twoL (op : Int) (us vs : List Int) : List Int := (List.range us.length).map fun j => two op (us.getD j 0) (vs.getD j 0)
theorem twoL_length (op : Int) (us vs : List Int) : (twoL op us vs).length = us.length := by simp [twoL]
theorem twoL_getD {op : Int} {us vs : List Int} {j : Nat} (h : j < us.length) : (twoL op us vs).getD j 0 = two op (us.getD j 0) (vs.getD j 0) := range_getD h
abbrev sprd (xs zs ys : List Int) : List Int := rdL zs ys (sst xs ys) 0
def twoP (op : Int) (xs zs ps qs : List Int) : Prop := tensorOk xs zs = true ∧ tensorOk ps qs = true ∧ (0 ≤ op ∧ op ≤ 3) ∧ jOk xs ps = true
instance (op : Int) (xs zs ps qs : List Int) : Decidable (twoP op xs zs ps qs) := by unfold twoP; infer_instance
def twoM (op : Int) (xs zs ps qs : List Int) : TM := if twoP op xs zs ps qs then told (jL xs ps) (twoL op (sprd xs zs (jL xs ps)) (sprd ps qs (jL xs ps))) else noT
theorem twoM_t {op : Int} {xs zs ps qs : List Int} (h : twoP op xs zs ps qs) : twoM op xs zs ps qs = told (jL xs ps) (twoL op (sprd xs zs (jL xs ps)) (sprd ps qs (jL xs ps))) := if_pos h
theorem twoM_f {op : Int} {xs zs ps qs : List Int} (h : ¬ twoP op xs zs ps qs) : twoM op xs zs ps qs = noT := if_neg h
theorem jOk_r {xs ps : List Int} (h : jOk xs ps = true) : jOk ps (jL xs ps) = true ∧ jL ps (jL xs ps) = jL xs ps := by
  have h' : jOk ps xs = true := by rw [jOk_comm]; exact h
  rw [jL_comm xs ps]
  exact ⟨jOk_jL h', jL_jL h'⟩
theorem sp_pre' {xs zs ys : List Int} (hl : (zs.length : Int) = cntTo xs xs.length) (h : jOk xs ys = true) (h' : jL xs ys = ys) : RdPre zs ys (sst xs ys) 0 := by
  obtain ⟨b1, b2⟩ := sp_facts h h'
  have hc := cnt64 b1 (Nat.le_refl _)
  obtain ⟨t1, -⟩ := sp_ok (sp_all h h' (i := 0) (by omega))
  refine ⟨b1, sst_length _ _, fun j hj => sst_in t1 b2 hj, by omega, fun i hi => ?_⟩
  obtain ⟨c1, c2, c3⟩ := sp_rd h h' hi
  omega
structure EtP (ys xs zs ps qs : List Int) : Prop where
  l1 : (zs.length : Int) = cntTo xs xs.length
  l2 : (qs.length : Int) = cntTo ps ps.length
  j1 : jOk xs ys = true
  j2 : jL xs ys = ys
  j3 : jOk ps ys = true
  j4 : jL ps ys = ys
def sEach : CSpec := fnL (ι := Int × Nat × List Int × Nat × List Int × Nat × List Int × Nat × List Int × Nat × List Int) 3 (fun | (op, g, ys, c, xs, d, zs, e, ps, f, qs) => [.int .i64 op, .sl g ys.length (ys.map (.int .i64)), .agg [.sl c xs.length (xs.map (.int .i64)), .sl d zs.length (zs.map (.int .i64))], .agg [.sl e ps.length (ps.map (.int .i64)), .sl f qs.length (qs.map (.int .i64))]]) (fun | (_, _, ys, _, xs, _, zs, _, ps, _, qs) => EtP ys xs zs ps qs) (fun | (op, _, ys, _, xs, _, zs, _, ps, _, qs) => twoL op (sprd xs zs ys) (sprd ps qs ys))
set_option maxHeartbeats 4000000 in
set_option maxRecDepth 10000 in
theorem eachTwo_sound : Sound Tryz.prog 151 sEach := by
  refine sound_of Tryz.func151 rfl (enters_of Tryz.func151 (by kernel_rfl) (by kernel_rfl)) ?_
  rintro ⟨op, g, ys, c, xs, d, zs, e, ps, f, qs⟩ hpre
  obtain ⟨l1, l2, j1, j2, j3, j4⟩ : EtP ys xs zs ps qs := hpre
  have hmax : maxLen = 9223372036854775807 := rfl
  obtain ⟨b1, b2⟩ := sp_facts j1 j2
  obtain ⟨b3, b4⟩ := sp_facts j3 j4
  have hc := cnt64 b1 (Nat.le_refl _)
  have h3 := ((shapeOk_iff _).1 b1).1
  obtain ⟨t1, -⟩ := sp_ok (sp_all j1 j2 (i := 0) (by omega))
  obtain ⟨t2, -⟩ := sp_ok (sp_all j3 j4 (i := 0) (by omega))
  have r1 := sp_pre' l1 j1 j2
  have r2 := sp_pre' l2 j3 j4
  have nA : (rdL zs ys (sst xs ys) 0).length = (cntTo ys ys.length).toNat := rdL_length _ _ _ _
  have nB : (rdL qs ys (sst ps ys) 0).length = (cntTo ys ys.length).toNat := rdL_length _ _ _ _
  conv => whnf
  repeat' (first
    | ((first | refine tree_in (id := 1) (.one 0 (.one 1 (.one 2 (.one 3 (.one 4 (.one 5 (.two 6 8 (.two 7 8 (.one 8 (.one 9 .nil)) (.one 7 (.one 9 .nil))) (.one 6 (.one 7 (.one 9 .nil)))))))))) (by kernel_rfl) (by kernel_rfl) ?_ | refine tree_in (id := 2) (.one 0 (.one 1 (.one 2 (.one 3 (.one 4 (.one 5 (.two 6 8 (.two 7 8 (.one 8 (.one 9 .nil)) (.one 7 (.one 9 .nil))) (.one 6 (.one 7 (.one 9 .nil)))))))))) (by kernel_rfl) (by kernel_rfl) ?_); conv => whnf) | (refine fork_in ?_ ?_ <;> conv => whnf) | ((first | refine fun (_ : _ ≤ maxLen) => ?_ | refine aGet_in rfl ?_ | refine And.intro (And.intro (Int.le_refl _) (And.intro (by kernel_rfl) (And.intro rfl (by kernel_rfl)))) (And.intro (And.intro (by omega) (And.intro (bytes_le (b := 8) rfl (by omega)) (by omega))) ?_) | refine And.intro rfl (And.intro (List.cons_ne_nil _ _) ?_) | refine And.intro (Nat.le_of_ble_eq_true rfl) ?_ | refine spreadSteps_call (And.intro (by assumption) (by omega)) ?_ | refine readBy_call (by assumption) (by first | rfl | omega) (by first | rfl | omega) (by first | rfl | omega) ?_ | refine append_same ?_ | refine And.intro (pureL_ints _ _) ?_ | refine cut_ints ?_ | refine set_force ?_ | refine And.intro (by kernel_rfl) ?_); conv => whnf))
  all_goals (first | (exfalso; omega) | skip)
  all_goals
    refine loop_u (ι := Nat × List Int) [true, false, false, false, false, false, false, false, false, false, true, true, false, false, false, false, false, false, false, false, false, false, false, false, false, false, false, false, false, false, false, false, false, false, false, true, true, true, false, false, false, false, false, false, false, false, false, false, false, false, false, false, false, false, false] (fun | (k, _) => [(37, .int .i64 k)]) (fun | (_, ws) => [(15, ws.map (.int .i64))]) (fun x => x.1 ≤ (rdL zs ys (sst xs ys) 0).length ∧ x.2.length = (rdL zs ys (sst xs ys) 0).length ∧ ∀ j, j < x.1 → x.2.getD j 0 = two op ((rdL zs ys (sst xs ys) 0).getD j 0) ((rdL qs ys (sst ps ys) 0).getD j 0)) (fun x => (rdL zs ys (sst xs ys) 0).length - x.1) ((0, List.replicate (rdL zs ys (sst xs ys) 0).length 0)) ⟨Nat.zero_le _, by simp, fun j hj => absurd hj (Nat.not_lt_zero _)⟩ ?_ ?_
    · conv => whnf
      repeat' (first
        | exact trivial | exact rfl
        | exact Or.inl (And.intro rfl rfl) | exact le_ints rfl
        | exact le_ints (rep_ints _ _) | exact Or.inl (And.intro (pureL_pair _ _ _ _ _ _) rfl)
        | refine Or.inr ?_ | refine And.intro ?_ ?_
        | exact Nat.le_of_ble_eq_true rfl)
    · rintro ⟨k, ws⟩ ⟨hk, hl, hall⟩
      have hk : k ≤ (rdL zs ys (sst xs ys) 0).length := hk
      have hl : ws.length = (rdL zs ys (sst xs ys) 0).length := hl
      have hall : ∀ j, j < k → ws.getD j 0 = two op ((rdL zs ys (sst xs ys) 0).getD j 0) ((rdL qs ys (sst ps ys) 0).getD j 0) := hall
      by_cases hlt : k < (rdL zs ys (sst xs ys) 0).length
      · conv => whnf
        repeat' (first
          | ((first | refine tree_in (id := 1) (.one 0 (.one 1 (.one 2 (.one 3 (.one 4 (.one 5 (.two 6 8 (.two 7 8 (.one 8 (.one 9 .nil)) (.one 7 (.one 9 .nil))) (.one 6 (.one 7 (.one 9 .nil)))))))))) (by kernel_rfl) (by kernel_rfl) ?_ | refine tree_in (id := 2) (.one 0 (.one 1 (.one 2 (.one 3 (.one 4 (.one 5 (.two 6 8 (.two 7 8 (.one 8 (.one 9 .nil)) (.one 7 (.one 9 .nil))) (.one 6 (.one 7 (.one 9 .nil)))))))))) (by kernel_rfl) (by kernel_rfl) ?_ | refine get_nat0 (by omega) ?_ | refine aGet_in rfl ?_ | refine And.intro (by omega) ?_ | refine callG_t ?_ | refine append_same ?_ | refine twoNums_call ?_ | refine And.intro rfl (And.intro rfl (And.intro (by first | omega | (rw [List.length_map]; omega)) ?_)) | refine set_nat ?_ (by omega)); conv => whnf) | (refine aIf_dec (fun _ => ?_) (fun _ => ?_) <;> conv => whnf))
        all_goals (first | (exfalso; omega) | skip)
        refine next_u (k + 1, ws.set k (two op ((rdL zs ys (sst xs ys) 0).getD k 0) ((rdL qs ys (sst ps ys) 0).getD k 0))) (show (rdL zs ys (sst xs ys) 0).length - (k + 1) < (rdL zs ys (sst xs ys) 0).length - k by omega) ⟨(show k + 1 ≤ (rdL zs ys (sst xs ys) 0).length by omega), (show (ws.set k _).length = _ by simpa using hl), fun j hj => ?_⟩ ?_
        · have hj : j < k + 1 := hj
          show (ws.set k (two op ((rdL zs ys (sst xs ys) 0).getD k 0) ((rdL qs ys (sst ps ys) 0).getD k 0))).getD j 0 = _
          rw [getD_set (by omega)]
          split
          · rename_i e; rw [e]
          · exact hall j (by omega)
        · conv => whnf
          repeat' (first
            | exact trivial | exact rfl
            | exact Or.inl (And.intro rfl rfl) | exact le_ints rfl
            | exact Or.inl (And.intro (pureL_pair _ _ _ _ _ _) rfl) | refine Or.inr ?_
            | refine And.intro ?_ ?_ | exact Nat.le_of_ble_eq_true rfl
            | exact int_eq (by rw [IntWalk.i64_in _ (by omega)] <;> omega))
      · have hws : ws = twoL op (rdL zs ys (sst xs ys) 0) (rdL qs ys (sst ps ys) 0) := getD_ext (by rw [twoL_length, hl]) fun j hj => by
          rw [twoL_length] at hj
          rw [hall j (by omega), twoL_getD hj]
        subst hws
        conv => whnf
        repeat' (first
          | ((first | refine tree_in (id := 1) (.one 0 (.one 1 (.one 2 (.one 3 (.one 4 (.one 5 (.two 6 8 (.two 7 8 (.one 8 (.one 9 .nil)) (.one 7 (.one 9 .nil))) (.one 6 (.one 7 (.one 9 .nil)))))))))) (by kernel_rfl) (by kernel_rfl) ?_ | refine tree_in (id := 2) (.one 0 (.one 1 (.one 2 (.one 3 (.one 4 (.one 5 (.two 6 8 (.two 7 8 (.one 8 (.one 9 .nil)) (.one 7 (.one 9 .nil))) (.one 6 (.one 7 (.one 9 .nil)))))))))) (by kernel_rfl) (by kernel_rfl) ?_ | refine get_nat0 (by omega) ?_ | refine aGet_in rfl ?_ | refine And.intro (by omega) ?_ | refine callG_t ?_ | refine append_same ?_ | refine twoNums_call ?_ | refine set_nat ?_ (by omega)); conv => whnf) | (refine aIf_dec (fun _ => ?_) (fun _ => ?_) <;> conv => whnf))
        all_goals (first | (exfalso; omega) | skip)
        exact retL rfl rfl rfl (by rw [twoL_length, Int.toNat_natCast])
theorem eachTwo_call {op : Int} {g c d e f : Nat} {ys xs zs ps qs : List Int} {env : List AV} {rows : List Row} {ctr low : Nat} {k : AV → St → Prop} (hpre : EtP ys xs zs ps qs) (h : k (.ref rows.length ctr 0 (twoL op (sprd xs zs ys) (sprd ps qs ys)).length) ⟨env, rows ++ [⟨ctr, 3, 1, (twoL op (sprd xs zs ys) (sprd ps qs ys)).map (.int .i64)⟩], ctr + 1, low⟩) :
    CallB Tryz.prog 151 ⟨env, rows, ctr, low⟩ [.int .i64 op, .sl g ys.length (ys.map (.int .i64)), .agg [.sl c xs.length (xs.map (.int .i64)), .sl d zs.length (zs.map (.int .i64))], .agg [.sl e ps.length (ps.map (.int .i64)), .sl f qs.length (qs.map (.int .i64))]] k := callL_in eachTwo_sound (op, g, ys, c, xs, d, zs, e, ps, f, qs) hpre h
def sTwoOf : CSpec := fnTB (ι := Int × Nat × List Int × Nat × List Int × Nat × List Int × Nat × List Int) 3 (fun | (op, c, xs, d, zs, e, ps, f, qs) => [.int .i64 op, .agg [.sl c xs.length (xs.map (.int .i64)), .sl d zs.length (zs.map (.int .i64))], .agg [.sl e ps.length (ps.map (.int .i64)), .sl f qs.length (qs.map (.int .i64))]]) (fun _ => True) (fun | (op, _, xs, _, zs, _, ps, _, qs) => twoM op xs zs ps qs)
set_option maxHeartbeats 4000000 in
set_option maxRecDepth 10000 in
theorem iTwoOf_sound : Sound Tryz.prog 171 sTwoOf := by
  refine sound_of Tryz.func171 rfl (enters_of Tryz.func171 (by kernel_rfl) (by kernel_rfl)) ?_
  rintro ⟨op, c, xs, d, zs, e, ps, f, qs⟩ -
  have hmax : maxLen = 9223372036854775807 := rfl
  have hle := jL_le6 xs ps
  by_cases hop : 0 ≤ op ∧ op ≤ 3
  · cases hj : jOk xs ps with
    | false =>
      have hC : ¬ twoP op xs zs ps qs := fun h => Bool.false_ne_true (hj.symm.trans h.2.2.2)
      conv => whnf
      repeat' (first
        | ((first | refine aIf_t ?_ | refine aIf_f ?_ | refine aGet_in rfl ?_ | refine And.intro (by omega) ?_ | refine And.intro rfl (And.intro (List.cons_ne_nil _ _) ?_) | refine And.intro (Nat.le_of_ble_eq_true rfl) ?_ | refine callG_t ?_ | refine append_same ?_ | refine takeN_in ?_ | refine And.intro (pureL_ints _ _) ?_ | refine iJoin_call ?_ | refine set_force ?_ | refine And.intro (by kernel_rfl) ?_ | refine aIf_ff (by assumption) ?_); conv => whnf) | refine aIf_eqf ?_
        | refine aIf_not ?_ | (refine aIf_dec (fun _ => ?_) (fun _ => ?_) <;> conv => whnf))
      all_goals (first | (exfalso; omega) | skip)
      refine retTB (hM := twoM_f hC) ?_ ?_ ?_ ?_ ?_
      all_goals (first | exact rfl | decide | (simp; done))
    | true =>
      obtain ⟨r1, r2⟩ := jOk_r hj
      have b1 := jL_ok hj
      have b3 := ((shapeOk_iff _).1 b1).1
      have hc := cnt64 b1 (Nat.le_refl _)
      rcases tensor_or xs zs with ⟨ht, hx, hz⟩ | ht
      · rcases tensor_or ps qs with ⟨hu, hy, hw⟩ | hu
        · have hE : EtP (jL xs ps) xs zs ps qs := ⟨((tensorOk_iff _ _).1 ht).2.1, ((tensorOk_iff _ _).1 hu).2.1, jOk_jL hj, jL_jL hj, r1, r2⟩
          have hl2 : (twoL op (sprd xs zs (jL xs ps)) (sprd ps qs (jL xs ps))).length ≤ 64 := by rw [twoL_length, rdL_length]; omega
          have hM : twoM op xs zs ps qs = told (jL xs ps) (twoL op (sprd xs zs (jL xs ps)) (sprd ps qs (jL xs ps))) := twoM_t ⟨ht, hu, hop, hj⟩
          conv => whnf
          repeat' (first
            | ((first | refine aIf_t ?_ | refine aIf_f ?_ | refine aGet_in rfl ?_ | refine And.intro (by omega) ?_ | refine load_same ?_ | refine And.intro rfl (And.intro (List.cons_ne_nil _ _) ?_) | refine And.intro (Nat.le_of_ble_eq_true rfl) ?_); conv => whnf) | (refine orNone_call _ _ rfl rfl (by decide) (by first | rfl | omega) (by first | rfl | omega) (fun _ => ?_) (fun _ => ?_) <;> conv => whnf) | ((first | refine callG_t ?_ | refine iTensorOk_call ?_ | refine append_same ?_ | refine eachTwo_call (by assumption) ?_ | refine takeN_in ?_ | refine And.intro (pureL_ints _ _) ?_ | refine cut_ints ?_ | refine iJoin_call ?_ | refine set_force ?_ | refine And.intro (by kernel_rfl) ?_ | refine aIf_tt (by assumption) ?_); conv => whnf) | refine aIf_eqf ?_
            | refine aIf_not ?_ | (refine aIf_dec (fun _ => ?_) (fun _ => ?_) <;> conv => whnf))
          all_goals (first | (exfalso; omega) | skip)
          all_goals (first | (refine retTB (hM := hM.trans (told_t (by assumption))) ?_ ?_ ?_ ?_ ?_ <;> first | exact rfl | decide | (simp; done)) | (refine retTB (hM := hM.trans (told_f (by assumption))) ?_ ?_ ?_ ?_ ?_ <;> first | exact rfl | decide | (simp; done)))
        · have hC : ¬ twoP op xs zs ps qs := fun h => Bool.false_ne_true (hu.symm.trans h.2.1)
          conv => whnf
          repeat' (first
            | ((first | refine aIf_t ?_ | refine aIf_f ?_ | refine aGet_in rfl ?_ | refine And.intro (by omega) ?_ | refine load_same ?_ | refine And.intro rfl (And.intro (List.cons_ne_nil _ _) ?_) | refine And.intro (Nat.le_of_ble_eq_true rfl) ?_ | refine callG_t ?_ | refine iTensorOk_call ?_ | refine append_same ?_ | refine takeN_in ?_ | refine And.intro (pureL_ints _ _) ?_ | refine iJoin_call ?_ | refine set_force ?_ | refine And.intro (by kernel_rfl) ?_ | refine aIf_tt (by assumption) ?_ | refine aIf_ff (by assumption) ?_); conv => whnf) | refine aIf_eqf ?_
            | refine aIf_not ?_ | (refine aIf_dec (fun _ => ?_) (fun _ => ?_) <;> conv => whnf))
          all_goals (first | (exfalso; omega) | skip)
          refine retTB (hM := twoM_f hC) ?_ ?_ ?_ ?_ ?_
          all_goals (first | exact rfl | decide | (simp; done))
      · have hC : ¬ twoP op xs zs ps qs := fun h => Bool.false_ne_true (ht.symm.trans h.1)
        conv => whnf
        repeat' (first
          | ((first | refine aIf_t ?_ | refine aIf_f ?_ | refine aGet_in rfl ?_ | refine And.intro (by omega) ?_ | refine load_same ?_ | refine And.intro rfl (And.intro (List.cons_ne_nil _ _) ?_) | refine And.intro (Nat.le_of_ble_eq_true rfl) ?_ | refine callG_t ?_ | refine iTensorOk_call ?_ | refine append_same ?_ | refine takeN_in ?_ | refine And.intro (pureL_ints _ _) ?_ | refine iJoin_call ?_ | refine set_force ?_ | refine And.intro (by kernel_rfl) ?_ | refine aIf_tt (by assumption) ?_ | refine aIf_ff (by assumption) ?_); conv => whnf) | refine aIf_eqf ?_
          | refine aIf_not ?_ | (refine aIf_dec (fun _ => ?_) (fun _ => ?_) <;> conv => whnf))
        all_goals (first | (exfalso; omega) | skip)
        refine retTB (hM := twoM_f hC) ?_ ?_ ?_ ?_ ?_
        all_goals (first | exact rfl | decide | (simp; done))
  · have hC : ¬ twoP op xs zs ps qs := fun h => hop h.2.2.1
    conv => whnf
    repeat' (first
      | ((first | refine aIf_t ?_ | refine aIf_f ?_ | refine aGet_in rfl ?_ | refine And.intro (by omega) ?_ | refine load_same ?_ | refine And.intro rfl (And.intro (List.cons_ne_nil _ _) ?_) | refine And.intro (Nat.le_of_ble_eq_true rfl) ?_ | refine callG_t ?_ | refine iTensorOk_call ?_ | refine append_same ?_ | refine takeN_in ?_ | refine And.intro (pureL_ints _ _) ?_ | refine cut_ints ?_ | refine iJoin_call ?_ | refine set_force ?_ | refine And.intro (by kernel_rfl) ?_); conv => whnf) | refine aIf_eqf ?_
      | refine aIf_not ?_ | (refine aIf_dec (fun _ => ?_) (fun _ => ?_) <;> conv => whnf)
      | (refine aIf_in (fun _ => ?_) (fun _ => ?_) <;> conv => whnf))
    all_goals (first | (exfalso; omega) | skip)
    · refine retTB (hM := twoM_f hC) ?_ ?_ ?_ ?_ ?_
      all_goals (first | exact rfl | decide | (simp; done))
    · refine retTB (hM := twoM_f hC) ?_ ?_ ?_ ?_ ?_
      all_goals (first | exact rfl | decide | (simp; done))
end Go.Proofs.YtjmdhfjemaoebaaGreat
