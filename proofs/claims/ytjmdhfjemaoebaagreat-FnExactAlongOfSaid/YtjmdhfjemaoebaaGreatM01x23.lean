import Derived.Test.YtjmdhfjemaoebaaGreatM01x22
import Derived.Test.YtjmdhfjemaoebaaGreatM01x17
namespace Go.Proofs.YtjmdhfjemaoebaaGreat
set_option maxRecDepth 20000
open Go.RowKit Go.Am
attribute [local irreducible] aPlan aGet aIf aLoop aCall RetB NextB CallB CallG aCut aSet aAppend
def sL2Product : CSpec := fnT (ι := Nat × List Int × Nat × List Int × Nat × List Int × Nat × List Int) 3 (fun | (c, xs, d, zs, e, ps, f, qs) => [.agg [.sl c xs.length (xs.map (.int .i64)), .sl d zs.length (zs.map (.int .i64))], .agg [.sl e ps.length (ps.map (.int .i64)), .sl f qs.length (qs.map (.int .i64))]]) (fun | (_, xs, _, zs, _, ps, _, qs) => prP xs zs ps qs) (fun | (_, xs, _, _, _, ps, _, _) => [xs.getD 0 0, ps.getD 1 0]) (fun | (_, xs, _, zs, _, ps, _, qs) => prL zs qs (xs.getD 0 0).toNat (xs.getD 1 0).toNat (ps.getD 1 0).toNat)
set_option maxHeartbeats 4000000 in
set_option maxRecDepth 10000 in
theorem l2Product_sound : Sound Tryz.prog 98 sL2Product := by
  refine sound_of Tryz.func98 rfl (enters_of Tryz.func98 (by kernel_rfl) (by kernel_rfl)) ?_
  rintro ⟨cc, xs, d, zs, e, ps, f, qs⟩ hpre
  have hP : prP xs zs ps qs := hpre
  have hP' := hP
  obtain ⟨ht, hu, h3, h4, h5⟩ := hP'
  obtain ⟨r, m, c, F⟩ := prF hP
  obtain ⟨e0, e1, e2, e3, r4, m4, c4, nz, nq⟩ := F
  have hmax : maxLen = 9223372036854775807 := rfl
  have g0 : xs.getD (Int.toNat 0) 0 = r := e0
  have g1 : xs.getD (Int.toNat 1) 0 = m := e1
  have g2 : ps.getD (Int.toNat 0) 0 = m := e2
  have g3 : ps.getD (Int.toNat 1) 0 = c := e3
  have hsh : [xs.getD 0 0, ps.getD 1 0] = [(r : Int), (c : Int)] := by rw [e0, e3]
  have hall0 : ∀ {ws : List Int} {i k : Nat}, ws.length = i * c + k → (∀ t, t < i * c + k → ws.getD t 0 = dotT zs qs m c (t / c) (t % c) m) → k < c → ∀ t, t < i * c + (k + 1) → (ws ++ [dotT zs qs m c i k m]).getD t 0 = dotT zs qs m c (t / c) (t % c) m := fun {ws i k} hl hall hk t ht => by
    rw [getD_snoc hl (by omega)]
    split
    · rename_i e'
      subst e'
      rw [Nat.mul_comm i c, Nat.mul_add_div (by omega), Nat.mul_add_mod, Nat.div_eq_of_lt hk, Nat.mod_eq_of_lt hk, Nat.add_zero]
    · exact hall t (by omega)
  conv => whnf
  repeat' (first
    | ((first | refine tree_in (id := 1) (.one 0 (.one 1 (.one 2 (.one 3 (.one 4 (.one 5 (.one 6 (.one 7 (.two 8 10 (.two 9 10 (.one 10 (.one 11 .nil)) (.one 9 (.one 11 .nil))) (.one 8 (.one 9 (.one 11 .nil)))))))))))) (by kernel_rfl) (by kernel_rfl) ?_ | refine plan_in (id := 12) [0, 1, 2, 3, 4, 5, 6, 7, 8, 9, 10, 11, 12, 13, 14, 15, 16, 17, 18, 19, 20, 21, 22, 23, 24, 25, 26, 27] (by kernel_rfl) (by kernel_rfl) ?_); conv => whnf) | (refine fork_in ?_ ?_ <;> conv => whnf) | ((first | refine get_int (by omega) ?_ | refine aGet_in rfl ?_ | refine And.intro (by omega) ?_ | refine And.intro rfl (And.intro (List.cons_ne_nil _ _) ?_) | refine And.intro (Nat.le_of_ble_eq_true rfl) ?_ | refine append_same ?_ | refine set_force ?_ | refine And.intro (And.intro (by kernel_rfl) (And.intro rfl (Nat.le_of_ble_eq_true rfl))) ?_ | refine And.intro (by kernel_rfl) ?_); conv => whnf))
  all_goals (first | (exfalso; omega) | skip)
  · refine loop_in (ι := Nat × List Int) (fun | (i, ws) => ⟨[.un, .un, .ptr 0 1 0, .ptr 1 2 0, .ptr 4 5 0, .ptr 9 10 0, .int .i64 i, .un, .un, .un, .un, .un, .un, .un, .un, .un, .un, .un, .un, .un, .un, .un, .un, .un, .un, .un, .un, .un, .un, .un, .un, .un, .un, .un, .un, .un, .un, .un, .un, .un, .un, .un, .un, .un, .un, .un, .un, .un, .un, .un, .un, .un, .un, .un, .un, .un, .un, .un, .un, .un, .un, .un, .un, .un, .un, .un, .un, .un, .un, .un, .un, .un, .un, .un, .un, .un, .un, .un], [bt 1 [.sl cc xs.length (xs.map (.int .i64)), .sl d zs.length (zs.map (.int .i64))], bt 2 [.sl e ps.length (ps.map (.int .i64)), .sl f qs.length (qs.map (.int .i64))], nl 3, nl 4, bt 5 [.ref 2 3 0 0, .ref 3 4 0 0], li 6 [xs.getD (Int.toNat 0) 0, ps.getD (Int.toNat 1) 0], li 7 ws, nl 8, nl 9, bt 10 [.ref 5 6 0 2, .ref 6 7 0 ws.length]], 11, 0⟩)
      (fun x => x.1 ≤ r ∧ x.2.length = x.1 * c + 0 ∧ ∀ t, t < x.1 * c + 0 → x.2.getD t 0 = dotT zs qs m c (t / c) (t % c) m) (fun x => r - x.1) (0, []) ⟨Nat.zero_le _, (by show 0 = 0 * c + 0; omega), fun t ht => (by have ht : t < 0 * c + 0 := ht; omega)⟩ ?_ ?_
    · repeat' (first
        | exact trivial | exact rfl
        | exact Or.inl (And.intro rfl rfl) | exact Or.inl (And.intro (pureL_pair _ _ _ _ _ _) rfl)
        | refine Or.inr ?_ | refine And.intro ?_ ?_
        | exact Nat.le_of_ble_eq_true rfl)
    · rintro ⟨i, ws⟩ ⟨hi, hl, hall⟩
      have hi : i ≤ r := hi
      have hl : ws.length = i * c + 0 := hl
      have hall : ∀ t, t < i * c + 0 → ws.getD t 0 = dotT zs qs m c (t / c) (t % c) m := hall
      by_cases hir : i < r
      · conv => whnf
        repeat' (first
          | ((first | refine tree_in (id := 1) (.one 0 (.one 1 (.one 2 (.one 3 (.one 4 (.one 5 (.one 6 (.one 7 (.two 8 10 (.two 9 10 (.one 10 (.one 11 .nil)) (.one 9 (.one 11 .nil))) (.one 8 (.one 9 (.one 11 .nil)))))))))))) (by kernel_rfl) (by kernel_rfl) ?_ | refine plan_in (id := 12) [0, 1, 2, 3, 4, 5, 6, 7, 8, 9, 10, 11, 12, 13, 14, 15, 16, 17, 18, 19, 20, 21, 22, 23, 24, 25, 26, 27] (by kernel_rfl) (by kernel_rfl) ?_ | refine get_int (by omega) ?_ | refine aGet_in rfl ?_ | refine And.intro (by omega) ?_ | refine load_same ?_ | refine append_same ?_ | refine takeN_in ?_ | refine set_force ?_); conv => whnf) | (refine aIf_dec (fun _ => ?_) (fun _ => ?_) <;> conv => whnf))
        all_goals (first | (exfalso; omega) | skip)
        refine loop_in (ι := Nat × List Int) (fun | (k, ws) => ⟨[.un, .un, .ptr 0 1 0, .ptr 1 2 0, .ptr 4 5 0, .ptr 9 10 0, .int .i64 i, .int .i64 k, .un, .un, .un, .un, .un, .un, .un, .un, .un, .un, .un, .un, .un, .un, .un, .un, .un, .un, .un, .un, .un, .un, .un, .un, .un, .un, .un, .un, .un, .un, .un, .un, .un, .un, .un, .un, .un, .un, .un, .un, .un, .un, .un, .un, .un, .un, .un, .un, .un, .un, .un, .un, .un, .un, .un, .un, .un, .un, .un, .un, .un, .un, .un, .un, .un, .un, .un, .un, .un, .un], [bt 1 [.sl cc xs.length (xs.map (.int .i64)), .sl d zs.length (zs.map (.int .i64))], bt 2 [.sl e ps.length (ps.map (.int .i64)), .sl f qs.length (qs.map (.int .i64))], nl 3, nl 4, bt 5 [.ref 2 3 0 0, .ref 3 4 0 0], li 6 [xs.getD (Int.toNat 0) 0, ps.getD (Int.toNat 1) 0], li 7 ws, nl 8, nl 9, bt 10 [.ref 5 6 0 2, .ref 6 7 0 ws.length]], 11, 0⟩)
          (fun x => x.1 ≤ c ∧ x.2.length = i * c + x.1 ∧ ∀ t, t < i * c + x.1 → x.2.getD t 0 = dotT zs qs m c (t / c) (t % c) m) (fun x => c - x.1) (0, ws) ⟨Nat.zero_le _, hl, hall⟩ ?_ ?_
        · repeat' (first
            | exact trivial | exact rfl
            | exact Or.inl (And.intro rfl rfl) | exact le_ints rfl
            | exact Or.inl (And.intro (pureL_pair _ _ _ _ _ _) rfl) | refine Or.inr ?_
            | refine And.intro ?_ ?_ | exact Nat.le_of_ble_eq_true rfl)
        · rintro ⟨k, ws⟩ ⟨hk, hl, hall⟩
          have hk : k ≤ c := hk
          have hl : ws.length = i * c + k := hl
          have hall : ∀ t, t < i * c + k → ws.getD t 0 = dotT zs qs m c (t / c) (t % c) m := hall
          by_cases hkc : k < c
          · have hik := pix hir hkc
            have hrc : r * c ≤ 16 := Nat.mul_le_mul r4.2 c4.2
            conv => whnf
            repeat' (first
              | ((first | refine tree_in (id := 1) (.one 0 (.one 1 (.one 2 (.one 3 (.one 4 (.one 5 (.one 6 (.one 7 (.two 8 10 (.two 9 10 (.one 10 (.one 11 .nil)) (.one 9 (.one 11 .nil))) (.one 8 (.one 9 (.one 11 .nil)))))))))))) (by kernel_rfl) (by kernel_rfl) ?_ | refine plan_in (id := 12) [0, 1, 2, 3, 4, 5, 6, 7, 8, 9, 10, 11, 12, 13, 14, 15, 16, 17, 18, 19, 20, 21, 22, 23, 24, 25, 26, 27] (by kernel_rfl) (by kernel_rfl) ?_ | refine get_int (by omega) ?_ | refine aGet_in rfl ?_ | refine And.intro (by omega) ?_ | refine append_same ?_); conv => whnf) | (refine aIf_dec (fun _ => ?_) (fun _ => ?_) <;> conv => whnf))
            all_goals (first | (exfalso; omega) | skip)
            refine loop_in (ι := Nat) (fun j => ⟨[.un, .un, .ptr 0 1 0, .ptr 1 2 0, .ptr 4 5 0, .ptr 9 10 0, .int .i64 i, .int .i64 k, .int .i64 (dotT zs qs m c i k j), .int .i64 j, .un, .un, .un, .un, .un, .un, .un, .un, .un, .un, .un, .un, .un, .un, .un, .un, .un, .un, .un, .un, .un, .un, .un, .un, .un, .un, .un, .un, .un, .un, .un, .un, .un, .un, .un, .un, .un, .un, .un, .un, .un, .un, .un, .un, .un, .un, .un, .un, .un, .un, .un, .un, .un, .un, .un, .un, .un, .un, .un, .un, .un, .un, .un, .un, .un, .un, .un, .un], [bt 1 [.sl cc xs.length (xs.map (.int .i64)), .sl d zs.length (zs.map (.int .i64))], bt 2 [.sl e ps.length (ps.map (.int .i64)), .sl f qs.length (qs.map (.int .i64))], nl 3, nl 4, bt 5 [.ref 2 3 0 0, .ref 3 4 0 0], li 6 [xs.getD (Int.toNat 0) 0, ps.getD (Int.toNat 1) 0], li 7 ws, nl 8, nl 9, bt 10 [.ref 5 6 0 2, .ref 6 7 0 ws.length]], 11, 0⟩)
              (fun j => j ≤ m) (fun j => m - j) 0 (Nat.zero_le _) ?_ ?_
            · repeat' (first
                | exact trivial | exact rfl
                | exact Or.inl (And.intro rfl rfl) | exact le_ints rfl
                | exact Or.inl (And.intro (pureL_pair _ _ _ _ _ _) rfl) | refine Or.inr ?_
                | refine And.intro ?_ ?_ | exact Nat.le_of_ble_eq_true rfl)
            · intro j hj
              have hj : j ≤ m := hj
              by_cases hjm : j < m
              · have p1 := pix hir hjm
                have p2 := pix hjm hkc
                have b1 : r * m ≤ 16 := Nat.mul_le_mul r4.2 m4.2
                have b2 : m * c ≤ 16 := Nat.mul_le_mul m4.2 c4.2
                have i1 : IntKind.i64.wrap (IntKind.i64.wrap ((i : Int) * xs.getD (Int.toNat 1) 0) + (j : Int)) = ((i * m + j : Nat) : Int) := by
                  rw [g1, ← Int.natCast_mul]
                  generalize i * m = y at p1 ⊢
                  rw [IntWalk.i64_in (y : Int) (by omega)]
                  exact (IntWalk.i64_in _ (by omega)).trans (by omega)
                have i2 : IntKind.i64.wrap (IntKind.i64.wrap ((j : Int) * ps.getD (Int.toNat 1) 0) + (k : Int)) = ((j * c + k : Nat) : Int) := by
                  rw [g3, ← Int.natCast_mul]
                  generalize j * c = y at p2 ⊢
                  rw [IntWalk.i64_in (y : Int) (by omega)]
                  exact (IntWalk.i64_in _ (by omega)).trans (by omega)
                have hn : IntKind.i64.wrap (dotT zs qs m c i k j + IntKind.i64.wrap (zs.getD (IntKind.i64.wrap (IntKind.i64.wrap ((i : Int) * xs.getD (Int.toNat 1) 0) + (j : Int))).toNat 0 * qs.getD (IntKind.i64.wrap (IntKind.i64.wrap ((j : Int) * ps.getD (Int.toNat 1) 0) + (k : Int))).toNat 0)) = dotT zs qs m c i k (j + 1) := by
                  rw [i1, i2, Int.toNat_natCast, Int.toNat_natCast]
                  rfl
                conv => whnf
                repeat' (first
                  | ((first | refine tree_in (id := 1) (.one 0 (.one 1 (.one 2 (.one 3 (.one 4 (.one 5 (.one 6 (.one 7 (.two 8 10 (.two 9 10 (.one 10 (.one 11 .nil)) (.one 9 (.one 11 .nil))) (.one 8 (.one 9 (.one 11 .nil)))))))))))) (by kernel_rfl) (by kernel_rfl) ?_ | refine plan_in (id := 12) [0, 1, 2, 3, 4, 5, 6, 7, 8, 9, 10, 11, 12, 13, 14, 15, 16, 17, 18, 19, 20, 21, 22, 23, 24, 25, 26, 27] (by kernel_rfl) (by kernel_rfl) ?_ | refine get_int (by omega) ?_ | refine aGet_in rfl ?_ | refine And.intro (by omega) ?_ | refine append_same ?_ | refine append_int rfl rfl (by first | rfl | (simp only [List.length_take, turned_length]; omega)) (by omega) (Nat.le_of_ble_eq_true rfl) ?_ | refine set_force ?_); conv => whnf) | (refine aIf_dec (fun _ => ?_) (fun _ => ?_) <;> conv => whnf))
                all_goals (first | (exfalso; omega) | skip)
                rw [hn]
                refine next_in (j + 1) (show m - (j + 1) < m - j by omega) (show j + 1 ≤ m by omega) ?_
                repeat' (first
                  | exact trivial | exact rfl
                  | exact Or.inl (And.intro rfl rfl) | exact le_ints rfl
                  | exact Or.inl (And.intro (pureL_pair _ _ _ _ _ _) rfl) | refine Or.inr ?_
                  | refine And.intro ?_ ?_ | exact Nat.le_of_ble_eq_true rfl
                  | exact int_eq (by rw [IntWalk.i64_in _ (by omega)] <;> omega))
              · have hje : j = m := by omega
                subst hje
                conv => whnf
                repeat' (first
                  | ((first | refine tree_in (id := 1) (.one 0 (.one 1 (.one 2 (.one 3 (.one 4 (.one 5 (.one 6 (.one 7 (.two 8 10 (.two 9 10 (.one 10 (.one 11 .nil)) (.one 9 (.one 11 .nil))) (.one 8 (.one 9 (.one 11 .nil)))))))))))) (by kernel_rfl) (by kernel_rfl) ?_ | refine plan_in (id := 12) [0, 1, 2, 3, 4, 5, 6, 7, 8, 9, 10, 11, 12, 13, 14, 15, 16, 17, 18, 19, 20, 21, 22, 23, 24, 25, 26, 27] (by kernel_rfl) (by kernel_rfl) ?_ | refine get_nat (by omega) ?_ | refine get_int (by omega) ?_ | refine aGet_in rfl ?_ | refine And.intro (by omega) ?_ | refine And.intro (Nat.le_of_ble_eq_true rfl) ?_ | refine append_same ?_ | refine append_int rfl rfl (by first | rfl | (simp only [List.length_take, turned_length]; omega)) (by omega) (Nat.le_of_ble_eq_true rfl) ?_ | refine set_force ?_ | refine And.intro (And.intro (by kernel_rfl) (And.intro rfl (Nat.le_of_ble_eq_true rfl))) ?_ | refine And.intro (by kernel_rfl) ?_); conv => whnf) | (refine aIf_dec (fun _ => ?_) (fun _ => ?_) <;> conv => whnf))
                all_goals (first | (exfalso; omega) | skip)
                refine next_in (k + 1, ws ++ [dotT zs qs j c i k j]) (show c - (k + 1) < c - k by omega) ⟨(show k + 1 ≤ c by omega), (by show (ws ++ [_]).length = _; simp [hl]; omega), hall0 hl hall hkc⟩ ?_
                repeat' (first
                  | exact trivial | exact rfl
                  | exact Or.inl (And.intro rfl rfl) | exact le_ints rfl
                  | exact Or.inl (And.intro (pureL_pair _ _ _ _ _ _) rfl) | refine Or.inr ?_
                  | refine And.intro ?_ ?_ | exact Nat.le_of_ble_eq_true rfl
                  | exact List.length_append | exact int_eq (by rw [IntWalk.i64_in _ (by omega)] <;> omega))
          · have hke : k = c := by omega
            conv => whnf
            repeat' (first
              | ((first | refine tree_in (id := 1) (.one 0 (.one 1 (.one 2 (.one 3 (.one 4 (.one 5 (.one 6 (.one 7 (.two 8 10 (.two 9 10 (.one 10 (.one 11 .nil)) (.one 9 (.one 11 .nil))) (.one 8 (.one 9 (.one 11 .nil)))))))))))) (by kernel_rfl) (by kernel_rfl) ?_ | refine plan_in (id := 12) [0, 1, 2, 3, 4, 5, 6, 7, 8, 9, 10, 11, 12, 13, 14, 15, 16, 17, 18, 19, 20, 21, 22, 23, 24, 25, 26, 27] (by kernel_rfl) (by kernel_rfl) ?_ | refine get_int (by omega) ?_ | refine aGet_in rfl ?_ | refine And.intro (by omega) ?_ | refine append_same ?_); conv => whnf) | (refine aIf_dec (fun _ => ?_) (fun _ => ?_) <;> conv => whnf))
            all_goals (first | (exfalso; omega) | skip)
            have e' : (i + 1) * c + 0 = i * c + k := by rw [Nat.add_mul]; omega
            refine next_in (i + 1, ws) (show r - (i + 1) < r - i by omega) ⟨(show i + 1 ≤ r by omega), (show ws.length = (i + 1) * c + 0 by omega), fun t ht => hall t (by have ht : t < (i + 1) * c + 0 := ht; omega)⟩ ?_
            repeat' (first
              | exact trivial | exact rfl
              | exact Or.inl (And.intro rfl rfl) | exact le_ints rfl
              | exact Or.inl (And.intro (pureL_pair _ _ _ _ _ _) rfl) | refine Or.inr ?_
              | refine And.intro ?_ ?_ | exact Nat.le_of_ble_eq_true rfl
              | exact int_eq (by rw [IntWalk.i64_in _ (by omega)] <;> omega))
      · have hie : i = r := by omega
        have hws : ws = prL zs qs (xs.getD 0 0).toNat (xs.getD 1 0).toNat (ps.getD 1 0).toNat := by
          rw [e0, e1, e3]
          subst hie
          exact getD_ext (by rw [Int.toNat_natCast, Int.toNat_natCast, Int.toNat_natCast, prL_length, hl]; rfl) fun j hj => by
            rw [Int.toNat_natCast, Int.toNat_natCast, Int.toNat_natCast] at hj ⊢
            rw [prL_length] at hj
            rw [hall j (by omega), prL_getD hj]
        subst hws
        conv => whnf
        repeat' (first
          | ((first | refine tree_in (id := 1) (.one 0 (.one 1 (.one 2 (.one 3 (.one 4 (.one 5 (.one 6 (.one 7 (.two 8 10 (.two 9 10 (.one 10 (.one 11 .nil)) (.one 9 (.one 11 .nil))) (.one 8 (.one 9 (.one 11 .nil)))))))))))) (by kernel_rfl) (by kernel_rfl) ?_ | refine plan_in (id := 12) [0, 1, 2, 3, 4, 5, 6, 7, 8, 9, 10, 11, 12, 13, 14, 15, 16, 17, 18, 19, 20, 21, 22, 23, 24, 25, 26, 27] (by kernel_rfl) (by kernel_rfl) ?_ | refine get_int (by omega) ?_ | refine aGet_in rfl ?_ | refine And.intro (by omega) ?_ | refine load_same ?_ | refine And.intro (Nat.le_of_ble_eq_true rfl) ?_ | refine append_same ?_ | refine takeN_in ?_ | refine set_force ?_ | refine And.intro (by kernel_rfl) ?_); conv => whnf) | (refine aIf_dec (fun _ => ?_) (fun _ => ?_) <;> conv => whnf))
        all_goals (first | (exfalso; omega) | skip)
        refine retT ?_ ?_ ?_ ?_ ?_
        all_goals (first | exact rfl | decide | (simp; done))
  · refine loop_in (ι := Nat × List Int) (fun | (i, ws) => ⟨[.un, .un, .ptr 0 1 0, .ptr 1 2 0, .ptr 4 5 0, .ptr 8 9 0, .int .i64 i, .un, .un, .un, .un, .un, .un, .un, .un, .un, .un, .un, .un, .un, .un, .un, .un, .un, .un, .un, .un, .un, .un, .un, .un, .un, .un, .un, .un, .un, .un, .un, .un, .un, .un, .un, .un, .un, .un, .un, .un, .un, .un, .un, .un, .un, .un, .un, .un, .un, .un, .un, .un, .un, .un, .un, .un, .un, .un, .un, .un, .un, .un, .un, .un, .un, .un, .un, .un, .un, .un, .un], [bt 1 [.sl cc xs.length (xs.map (.int .i64)), .sl d zs.length (zs.map (.int .i64))], bt 2 [.sl e ps.length (ps.map (.int .i64)), .sl f qs.length (qs.map (.int .i64))], nl 3, nl 4, bt 5 [.ref 2 3 0 0, .ref 3 4 0 0], li 6 [xs.getD (Int.toNat 0) 0, ps.getD (Int.toNat 1) 0], nl 7, nl 8, bt 9 [.ref 5 6 0 2, .ref 9 10 0 ws.length], li 10 ws], 11, 0⟩)
      (fun x => x.1 ≤ r ∧ x.2.length = x.1 * c + 0 ∧ ∀ t, t < x.1 * c + 0 → x.2.getD t 0 = dotT zs qs m c (t / c) (t % c) m) (fun x => r - x.1) (0, []) ⟨Nat.zero_le _, (by show 0 = 0 * c + 0; omega), fun t ht => (by have ht : t < 0 * c + 0 := ht; omega)⟩ ?_ ?_
    · repeat' (first
        | exact trivial | exact rfl
        | exact Or.inl (And.intro rfl rfl) | exact Or.inl (And.intro (pureL_pair _ _ _ _ _ _) rfl)
        | refine Or.inr ?_ | refine And.intro ?_ ?_
        | exact Nat.le_of_ble_eq_true rfl)
    · rintro ⟨i, ws⟩ ⟨hi, hl, hall⟩
      have hi : i ≤ r := hi
      have hl : ws.length = i * c + 0 := hl
      have hall : ∀ t, t < i * c + 0 → ws.getD t 0 = dotT zs qs m c (t / c) (t % c) m := hall
      by_cases hir : i < r
      · conv => whnf
        repeat' (first
          | ((first | refine tree_in (id := 1) (.one 0 (.one 1 (.one 2 (.one 3 (.one 4 (.one 5 (.one 6 (.one 7 (.two 8 10 (.two 9 10 (.one 10 (.one 11 .nil)) (.one 9 (.one 11 .nil))) (.one 8 (.one 9 (.one 11 .nil)))))))))))) (by kernel_rfl) (by kernel_rfl) ?_ | refine plan_in (id := 12) [0, 1, 2, 3, 4, 5, 6, 7, 8, 9, 10, 11, 12, 13, 14, 15, 16, 17, 18, 19, 20, 21, 22, 23, 24, 25, 26, 27] (by kernel_rfl) (by kernel_rfl) ?_ | refine get_int (by omega) ?_ | refine aGet_in rfl ?_ | refine And.intro (by omega) ?_ | refine load_same ?_ | refine append_same ?_ | refine takeN_in ?_ | refine set_force ?_); conv => whnf) | (refine aIf_dec (fun _ => ?_) (fun _ => ?_) <;> conv => whnf))
        all_goals (first | (exfalso; omega) | skip)
        refine loop_in (ι := Nat × List Int) (fun | (k, ws) => ⟨[.un, .un, .ptr 0 1 0, .ptr 1 2 0, .ptr 4 5 0, .ptr 8 9 0, .int .i64 i, .int .i64 k, .un, .un, .un, .un, .un, .un, .un, .un, .un, .un, .un, .un, .un, .un, .un, .un, .un, .un, .un, .un, .un, .un, .un, .un, .un, .un, .un, .un, .un, .un, .un, .un, .un, .un, .un, .un, .un, .un, .un, .un, .un, .un, .un, .un, .un, .un, .un, .un, .un, .un, .un, .un, .un, .un, .un, .un, .un, .un, .un, .un, .un, .un, .un, .un, .un, .un, .un, .un, .un, .un], [bt 1 [.sl cc xs.length (xs.map (.int .i64)), .sl d zs.length (zs.map (.int .i64))], bt 2 [.sl e ps.length (ps.map (.int .i64)), .sl f qs.length (qs.map (.int .i64))], nl 3, nl 4, bt 5 [.ref 2 3 0 0, .ref 3 4 0 0], li 6 [xs.getD (Int.toNat 0) 0, ps.getD (Int.toNat 1) 0], nl 7, nl 8, bt 9 [.ref 5 6 0 2, .ref 9 10 0 ws.length], li 10 ws], 11, 0⟩)
          (fun x => x.1 ≤ c ∧ x.2.length = i * c + x.1 ∧ ∀ t, t < i * c + x.1 → x.2.getD t 0 = dotT zs qs m c (t / c) (t % c) m) (fun x => c - x.1) (0, ws) ⟨Nat.zero_le _, hl, hall⟩ ?_ ?_
        · repeat' (first
            | exact trivial | exact rfl
            | exact Or.inl (And.intro rfl rfl) | exact le_ints rfl
            | exact Or.inl (And.intro (pureL_pair _ _ _ _ _ _) rfl) | refine Or.inr ?_
            | refine And.intro ?_ ?_ | exact Nat.le_of_ble_eq_true rfl)
        · rintro ⟨k, ws⟩ ⟨hk, hl, hall⟩
          have hk : k ≤ c := hk
          have hl : ws.length = i * c + k := hl
          have hall : ∀ t, t < i * c + k → ws.getD t 0 = dotT zs qs m c (t / c) (t % c) m := hall
          by_cases hkc : k < c
          · have hik := pix hir hkc
            have hrc : r * c ≤ 16 := Nat.mul_le_mul r4.2 c4.2
            conv => whnf
            repeat' (first
              | ((first | refine tree_in (id := 1) (.one 0 (.one 1 (.one 2 (.one 3 (.one 4 (.one 5 (.one 6 (.one 7 (.two 8 10 (.two 9 10 (.one 10 (.one 11 .nil)) (.one 9 (.one 11 .nil))) (.one 8 (.one 9 (.one 11 .nil)))))))))))) (by kernel_rfl) (by kernel_rfl) ?_ | refine plan_in (id := 12) [0, 1, 2, 3, 4, 5, 6, 7, 8, 9, 10, 11, 12, 13, 14, 15, 16, 17, 18, 19, 20, 21, 22, 23, 24, 25, 26, 27] (by kernel_rfl) (by kernel_rfl) ?_ | refine get_int (by omega) ?_ | refine aGet_in rfl ?_ | refine And.intro (by omega) ?_ | refine append_same ?_); conv => whnf) | (refine aIf_dec (fun _ => ?_) (fun _ => ?_) <;> conv => whnf))
            all_goals (first | (exfalso; omega) | skip)
            refine loop_in (ι := Nat) (fun j => ⟨[.un, .un, .ptr 0 1 0, .ptr 1 2 0, .ptr 4 5 0, .ptr 8 9 0, .int .i64 i, .int .i64 k, .int .i64 (dotT zs qs m c i k j), .int .i64 j, .un, .un, .un, .un, .un, .un, .un, .un, .un, .un, .un, .un, .un, .un, .un, .un, .un, .un, .un, .un, .un, .un, .un, .un, .un, .un, .un, .un, .un, .un, .un, .un, .un, .un, .un, .un, .un, .un, .un, .un, .un, .un, .un, .un, .un, .un, .un, .un, .un, .un, .un, .un, .un, .un, .un, .un, .un, .un, .un, .un, .un, .un, .un, .un, .un, .un, .un, .un], [bt 1 [.sl cc xs.length (xs.map (.int .i64)), .sl d zs.length (zs.map (.int .i64))], bt 2 [.sl e ps.length (ps.map (.int .i64)), .sl f qs.length (qs.map (.int .i64))], nl 3, nl 4, bt 5 [.ref 2 3 0 0, .ref 3 4 0 0], li 6 [xs.getD (Int.toNat 0) 0, ps.getD (Int.toNat 1) 0], nl 7, nl 8, bt 9 [.ref 5 6 0 2, .ref 9 10 0 ws.length], li 10 ws], 11, 0⟩)
              (fun j => j ≤ m) (fun j => m - j) 0 (Nat.zero_le _) ?_ ?_
            · repeat' (first
                | exact trivial | exact rfl
                | exact Or.inl (And.intro rfl rfl) | exact le_ints rfl
                | exact Or.inl (And.intro (pureL_pair _ _ _ _ _ _) rfl) | refine Or.inr ?_
                | refine And.intro ?_ ?_ | exact Nat.le_of_ble_eq_true rfl)
            · intro j hj
              have hj : j ≤ m := hj
              by_cases hjm : j < m
              · have p1 := pix hir hjm
                have p2 := pix hjm hkc
                have b1 : r * m ≤ 16 := Nat.mul_le_mul r4.2 m4.2
                have b2 : m * c ≤ 16 := Nat.mul_le_mul m4.2 c4.2
                have i1 : IntKind.i64.wrap (IntKind.i64.wrap ((i : Int) * xs.getD (Int.toNat 1) 0) + (j : Int)) = ((i * m + j : Nat) : Int) := by
                  rw [g1, ← Int.natCast_mul]
                  generalize i * m = y at p1 ⊢
                  rw [IntWalk.i64_in (y : Int) (by omega)]
                  exact (IntWalk.i64_in _ (by omega)).trans (by omega)
                have i2 : IntKind.i64.wrap (IntKind.i64.wrap ((j : Int) * ps.getD (Int.toNat 1) 0) + (k : Int)) = ((j * c + k : Nat) : Int) := by
                  rw [g3, ← Int.natCast_mul]
                  generalize j * c = y at p2 ⊢
                  rw [IntWalk.i64_in (y : Int) (by omega)]
                  exact (IntWalk.i64_in _ (by omega)).trans (by omega)
                have hn : IntKind.i64.wrap (dotT zs qs m c i k j + IntKind.i64.wrap (zs.getD (IntKind.i64.wrap (IntKind.i64.wrap ((i : Int) * xs.getD (Int.toNat 1) 0) + (j : Int))).toNat 0 * qs.getD (IntKind.i64.wrap (IntKind.i64.wrap ((j : Int) * ps.getD (Int.toNat 1) 0) + (k : Int))).toNat 0)) = dotT zs qs m c i k (j + 1) := by
                  rw [i1, i2, Int.toNat_natCast, Int.toNat_natCast]
                  rfl
                conv => whnf
                repeat' (first
                  | ((first | refine tree_in (id := 1) (.one 0 (.one 1 (.one 2 (.one 3 (.one 4 (.one 5 (.one 6 (.one 7 (.two 8 10 (.two 9 10 (.one 10 (.one 11 .nil)) (.one 9 (.one 11 .nil))) (.one 8 (.one 9 (.one 11 .nil)))))))))))) (by kernel_rfl) (by kernel_rfl) ?_ | refine plan_in (id := 12) [0, 1, 2, 3, 4, 5, 6, 7, 8, 9, 10, 11, 12, 13, 14, 15, 16, 17, 18, 19, 20, 21, 22, 23, 24, 25, 26, 27] (by kernel_rfl) (by kernel_rfl) ?_ | refine get_int (by omega) ?_ | refine aGet_in rfl ?_ | refine And.intro (by omega) ?_ | refine append_same ?_ | refine append_int rfl rfl (by first | rfl | (simp only [List.length_take, turned_length]; omega)) (by omega) (Nat.le_of_ble_eq_true rfl) ?_ | refine set_force ?_); conv => whnf) | (refine aIf_dec (fun _ => ?_) (fun _ => ?_) <;> conv => whnf))
                all_goals (first | (exfalso; omega) | skip)
                rw [hn]
                refine next_in (j + 1) (show m - (j + 1) < m - j by omega) (show j + 1 ≤ m by omega) ?_
                repeat' (first
                  | exact trivial | exact rfl
                  | exact Or.inl (And.intro rfl rfl) | exact le_ints rfl
                  | exact Or.inl (And.intro (pureL_pair _ _ _ _ _ _) rfl) | refine Or.inr ?_
                  | refine And.intro ?_ ?_ | exact Nat.le_of_ble_eq_true rfl
                  | exact int_eq (by rw [IntWalk.i64_in _ (by omega)] <;> omega))
              · have hje : j = m := by omega
                subst hje
                conv => whnf
                repeat' (first
                  | ((first | refine tree_in (id := 1) (.one 0 (.one 1 (.one 2 (.one 3 (.one 4 (.one 5 (.one 6 (.one 7 (.two 8 10 (.two 9 10 (.one 10 (.one 11 .nil)) (.one 9 (.one 11 .nil))) (.one 8 (.one 9 (.one 11 .nil)))))))))))) (by kernel_rfl) (by kernel_rfl) ?_ | refine plan_in (id := 12) [0, 1, 2, 3, 4, 5, 6, 7, 8, 9, 10, 11, 12, 13, 14, 15, 16, 17, 18, 19, 20, 21, 22, 23, 24, 25, 26, 27] (by kernel_rfl) (by kernel_rfl) ?_ | refine get_nat (by omega) ?_ | refine get_int (by omega) ?_ | refine aGet_in rfl ?_ | refine And.intro (by omega) ?_ | refine And.intro (Nat.le_of_ble_eq_true rfl) ?_ | refine append_same ?_ | refine append_int rfl rfl (by first | rfl | (simp only [List.length_take, turned_length]; omega)) (by omega) (Nat.le_of_ble_eq_true rfl) ?_ | refine set_force ?_ | refine And.intro (And.intro (by kernel_rfl) (And.intro rfl (Nat.le_of_ble_eq_true rfl))) ?_ | refine And.intro (by kernel_rfl) ?_); conv => whnf) | (refine aIf_dec (fun _ => ?_) (fun _ => ?_) <;> conv => whnf))
                all_goals (first | (exfalso; omega) | skip)
                refine next_in (k + 1, ws ++ [dotT zs qs j c i k j]) (show c - (k + 1) < c - k by omega) ⟨(show k + 1 ≤ c by omega), (by show (ws ++ [_]).length = _; simp [hl]; omega), hall0 hl hall hkc⟩ ?_
                repeat' (first
                  | exact trivial | exact rfl
                  | exact Or.inl (And.intro rfl rfl) | exact le_ints rfl
                  | exact Or.inl (And.intro (pureL_pair _ _ _ _ _ _) rfl) | refine Or.inr ?_
                  | refine And.intro ?_ ?_ | exact Nat.le_of_ble_eq_true rfl
                  | exact List.length_append | exact int_eq (by rw [IntWalk.i64_in _ (by omega)] <;> omega))
          · have hke : k = c := by omega
            conv => whnf
            repeat' (first
              | ((first | refine tree_in (id := 1) (.one 0 (.one 1 (.one 2 (.one 3 (.one 4 (.one 5 (.one 6 (.one 7 (.two 8 10 (.two 9 10 (.one 10 (.one 11 .nil)) (.one 9 (.one 11 .nil))) (.one 8 (.one 9 (.one 11 .nil)))))))))))) (by kernel_rfl) (by kernel_rfl) ?_ | refine plan_in (id := 12) [0, 1, 2, 3, 4, 5, 6, 7, 8, 9, 10, 11, 12, 13, 14, 15, 16, 17, 18, 19, 20, 21, 22, 23, 24, 25, 26, 27] (by kernel_rfl) (by kernel_rfl) ?_ | refine get_int (by omega) ?_ | refine aGet_in rfl ?_ | refine And.intro (by omega) ?_ | refine append_same ?_); conv => whnf) | (refine aIf_dec (fun _ => ?_) (fun _ => ?_) <;> conv => whnf))
            all_goals (first | (exfalso; omega) | skip)
            have e' : (i + 1) * c + 0 = i * c + k := by rw [Nat.add_mul]; omega
            refine next_in (i + 1, ws) (show r - (i + 1) < r - i by omega) ⟨(show i + 1 ≤ r by omega), (show ws.length = (i + 1) * c + 0 by omega), fun t ht => hall t (by have ht : t < (i + 1) * c + 0 := ht; omega)⟩ ?_
            repeat' (first
              | exact trivial | exact rfl
              | exact Or.inl (And.intro rfl rfl) | exact le_ints rfl
              | exact Or.inl (And.intro (pureL_pair _ _ _ _ _ _) rfl) | refine Or.inr ?_
              | refine And.intro ?_ ?_ | exact Nat.le_of_ble_eq_true rfl
              | exact int_eq (by rw [IntWalk.i64_in _ (by omega)] <;> omega))
      · have hie : i = r := by omega
        have hws : ws = prL zs qs (xs.getD 0 0).toNat (xs.getD 1 0).toNat (ps.getD 1 0).toNat := by
          rw [e0, e1, e3]
          subst hie
          exact getD_ext (by rw [Int.toNat_natCast, Int.toNat_natCast, Int.toNat_natCast, prL_length, hl]; rfl) fun j hj => by
            rw [Int.toNat_natCast, Int.toNat_natCast, Int.toNat_natCast] at hj ⊢
            rw [prL_length] at hj
            rw [hall j (by omega), prL_getD hj]
        subst hws
        conv => whnf
        repeat' (first
          | ((first | refine tree_in (id := 1) (.one 0 (.one 1 (.one 2 (.one 3 (.one 4 (.one 5 (.one 6 (.one 7 (.two 8 10 (.two 9 10 (.one 10 (.one 11 .nil)) (.one 9 (.one 11 .nil))) (.one 8 (.one 9 (.one 11 .nil)))))))))))) (by kernel_rfl) (by kernel_rfl) ?_ | refine plan_in (id := 12) [0, 1, 2, 3, 4, 5, 6, 7, 8, 9, 10, 11, 12, 13, 14, 15, 16, 17, 18, 19, 20, 21, 22, 23, 24, 25, 26, 27] (by kernel_rfl) (by kernel_rfl) ?_ | refine get_int (by omega) ?_ | refine aGet_in rfl ?_ | refine And.intro (by omega) ?_ | refine load_same ?_ | refine And.intro (Nat.le_of_ble_eq_true rfl) ?_ | refine append_same ?_ | refine takeN_in ?_ | refine set_force ?_ | refine And.intro (by kernel_rfl) ?_); conv => whnf) | (refine aIf_dec (fun _ => ?_) (fun _ => ?_) <;> conv => whnf))
        all_goals (first | (exfalso; omega) | skip)
        refine retT ?_ ?_ ?_ ?_ ?_
        all_goals (first | exact rfl | decide | (simp; done))
  · refine loop_in (ι := Nat × List Int) (fun | (i, ws) => ⟨[.un, .un, .ptr 0 1 0, .ptr 1 2 0, .ptr 4 5 0, .ptr 7 8 0, .int .i64 i, .un, .un, .un, .un, .un, .un, .un, .un, .un, .un, .un, .un, .un, .un, .un, .un, .un, .un, .un, .un, .un, .un, .un, .un, .un, .un, .un, .un, .un, .un, .un, .un, .un, .un, .un, .un, .un, .un, .un, .un, .un, .un, .un, .un, .un, .un, .un, .un, .un, .un, .un, .un, .un, .un, .un, .un, .un, .un, .un, .un, .un, .un, .un, .un, .un, .un, .un, .un, .un, .un, .un], [bt 1 [.sl cc xs.length (xs.map (.int .i64)), .sl d zs.length (zs.map (.int .i64))], bt 2 [.sl e ps.length (ps.map (.int .i64)), .sl f qs.length (qs.map (.int .i64))], nl 3, nl 4, bt 5 [.ref 2 3 0 0, .ref 3 4 0 0], nl 6, nl 7, bt 8 [.ref 8 9 0 2, .ref 9 10 0 ws.length], li 9 [xs.getD (Int.toNat 0) 0, ps.getD (Int.toNat 1) 0], li 10 ws], 11, 0⟩)
      (fun x => x.1 ≤ r ∧ x.2.length = x.1 * c + 0 ∧ ∀ t, t < x.1 * c + 0 → x.2.getD t 0 = dotT zs qs m c (t / c) (t % c) m) (fun x => r - x.1) (0, []) ⟨Nat.zero_le _, (by show 0 = 0 * c + 0; omega), fun t ht => (by have ht : t < 0 * c + 0 := ht; omega)⟩ ?_ ?_
    · repeat' (first
        | exact trivial | exact rfl
        | exact Or.inl (And.intro rfl rfl) | exact Or.inl (And.intro (pureL_pair _ _ _ _ _ _) rfl)
        | refine Or.inr ?_ | refine And.intro ?_ ?_
        | exact Nat.le_of_ble_eq_true rfl)
    · rintro ⟨i, ws⟩ ⟨hi, hl, hall⟩
      have hi : i ≤ r := hi
      have hl : ws.length = i * c + 0 := hl
      have hall : ∀ t, t < i * c + 0 → ws.getD t 0 = dotT zs qs m c (t / c) (t % c) m := hall
      by_cases hir : i < r
      · conv => whnf
        repeat' (first
          | ((first | refine tree_in (id := 1) (.one 0 (.one 1 (.one 2 (.one 3 (.one 4 (.one 5 (.one 6 (.one 7 (.two 8 10 (.two 9 10 (.one 10 (.one 11 .nil)) (.one 9 (.one 11 .nil))) (.one 8 (.one 9 (.one 11 .nil)))))))))))) (by kernel_rfl) (by kernel_rfl) ?_ | refine plan_in (id := 12) [0, 1, 2, 3, 4, 5, 6, 7, 8, 9, 10, 11, 12, 13, 14, 15, 16, 17, 18, 19, 20, 21, 22, 23, 24, 25, 26, 27] (by kernel_rfl) (by kernel_rfl) ?_ | refine get_int (by omega) ?_ | refine aGet_in rfl ?_ | refine And.intro (by omega) ?_ | refine load_same ?_ | refine append_same ?_ | refine takeN_in ?_ | refine set_force ?_); conv => whnf) | (refine aIf_dec (fun _ => ?_) (fun _ => ?_) <;> conv => whnf))
        all_goals (first | (exfalso; omega) | skip)
        refine loop_in (ι := Nat × List Int) (fun | (k, ws) => ⟨[.un, .un, .ptr 0 1 0, .ptr 1 2 0, .ptr 4 5 0, .ptr 7 8 0, .int .i64 i, .int .i64 k, .un, .un, .un, .un, .un, .un, .un, .un, .un, .un, .un, .un, .un, .un, .un, .un, .un, .un, .un, .un, .un, .un, .un, .un, .un, .un, .un, .un, .un, .un, .un, .un, .un, .un, .un, .un, .un, .un, .un, .un, .un, .un, .un, .un, .un, .un, .un, .un, .un, .un, .un, .un, .un, .un, .un, .un, .un, .un, .un, .un, .un, .un, .un, .un, .un, .un, .un, .un, .un, .un], [bt 1 [.sl cc xs.length (xs.map (.int .i64)), .sl d zs.length (zs.map (.int .i64))], bt 2 [.sl e ps.length (ps.map (.int .i64)), .sl f qs.length (qs.map (.int .i64))], nl 3, nl 4, bt 5 [.ref 2 3 0 0, .ref 3 4 0 0], nl 6, nl 7, bt 8 [.ref 8 9 0 2, .ref 9 10 0 ws.length], li 9 [xs.getD (Int.toNat 0) 0, ps.getD (Int.toNat 1) 0], li 10 ws], 11, 0⟩)
          (fun x => x.1 ≤ c ∧ x.2.length = i * c + x.1 ∧ ∀ t, t < i * c + x.1 → x.2.getD t 0 = dotT zs qs m c (t / c) (t % c) m) (fun x => c - x.1) (0, ws) ⟨Nat.zero_le _, hl, hall⟩ ?_ ?_
        · repeat' (first
            | exact trivial | exact rfl
            | exact Or.inl (And.intro rfl rfl) | exact le_ints rfl
            | exact Or.inl (And.intro (pureL_pair _ _ _ _ _ _) rfl) | refine Or.inr ?_
            | refine And.intro ?_ ?_ | exact Nat.le_of_ble_eq_true rfl)
        · rintro ⟨k, ws⟩ ⟨hk, hl, hall⟩
          have hk : k ≤ c := hk
          have hl : ws.length = i * c + k := hl
          have hall : ∀ t, t < i * c + k → ws.getD t 0 = dotT zs qs m c (t / c) (t % c) m := hall
          by_cases hkc : k < c
          · have hik := pix hir hkc
            have hrc : r * c ≤ 16 := Nat.mul_le_mul r4.2 c4.2
            conv => whnf
            repeat' (first
              | ((first | refine tree_in (id := 1) (.one 0 (.one 1 (.one 2 (.one 3 (.one 4 (.one 5 (.one 6 (.one 7 (.two 8 10 (.two 9 10 (.one 10 (.one 11 .nil)) (.one 9 (.one 11 .nil))) (.one 8 (.one 9 (.one 11 .nil)))))))))))) (by kernel_rfl) (by kernel_rfl) ?_ | refine plan_in (id := 12) [0, 1, 2, 3, 4, 5, 6, 7, 8, 9, 10, 11, 12, 13, 14, 15, 16, 17, 18, 19, 20, 21, 22, 23, 24, 25, 26, 27] (by kernel_rfl) (by kernel_rfl) ?_ | refine get_int (by omega) ?_ | refine aGet_in rfl ?_ | refine And.intro (by omega) ?_ | refine append_same ?_); conv => whnf) | (refine aIf_dec (fun _ => ?_) (fun _ => ?_) <;> conv => whnf))
            all_goals (first | (exfalso; omega) | skip)
            refine loop_in (ι := Nat) (fun j => ⟨[.un, .un, .ptr 0 1 0, .ptr 1 2 0, .ptr 4 5 0, .ptr 7 8 0, .int .i64 i, .int .i64 k, .int .i64 (dotT zs qs m c i k j), .int .i64 j, .un, .un, .un, .un, .un, .un, .un, .un, .un, .un, .un, .un, .un, .un, .un, .un, .un, .un, .un, .un, .un, .un, .un, .un, .un, .un, .un, .un, .un, .un, .un, .un, .un, .un, .un, .un, .un, .un, .un, .un, .un, .un, .un, .un, .un, .un, .un, .un, .un, .un, .un, .un, .un, .un, .un, .un, .un, .un, .un, .un, .un, .un, .un, .un, .un, .un, .un, .un], [bt 1 [.sl cc xs.length (xs.map (.int .i64)), .sl d zs.length (zs.map (.int .i64))], bt 2 [.sl e ps.length (ps.map (.int .i64)), .sl f qs.length (qs.map (.int .i64))], nl 3, nl 4, bt 5 [.ref 2 3 0 0, .ref 3 4 0 0], nl 6, nl 7, bt 8 [.ref 8 9 0 2, .ref 9 10 0 ws.length], li 9 [xs.getD (Int.toNat 0) 0, ps.getD (Int.toNat 1) 0], li 10 ws], 11, 0⟩)
              (fun j => j ≤ m) (fun j => m - j) 0 (Nat.zero_le _) ?_ ?_
            · repeat' (first
                | exact trivial | exact rfl
                | exact Or.inl (And.intro rfl rfl) | exact le_ints rfl
                | exact Or.inl (And.intro (pureL_pair _ _ _ _ _ _) rfl) | refine Or.inr ?_
                | refine And.intro ?_ ?_ | exact Nat.le_of_ble_eq_true rfl)
            · intro j hj
              have hj : j ≤ m := hj
              by_cases hjm : j < m
              · have p1 := pix hir hjm
                have p2 := pix hjm hkc
                have b1 : r * m ≤ 16 := Nat.mul_le_mul r4.2 m4.2
                have b2 : m * c ≤ 16 := Nat.mul_le_mul m4.2 c4.2
                have i1 : IntKind.i64.wrap (IntKind.i64.wrap ((i : Int) * xs.getD (Int.toNat 1) 0) + (j : Int)) = ((i * m + j : Nat) : Int) := by
                  rw [g1, ← Int.natCast_mul]
                  generalize i * m = y at p1 ⊢
                  rw [IntWalk.i64_in (y : Int) (by omega)]
                  exact (IntWalk.i64_in _ (by omega)).trans (by omega)
                have i2 : IntKind.i64.wrap (IntKind.i64.wrap ((j : Int) * ps.getD (Int.toNat 1) 0) + (k : Int)) = ((j * c + k : Nat) : Int) := by
                  rw [g3, ← Int.natCast_mul]
                  generalize j * c = y at p2 ⊢
                  rw [IntWalk.i64_in (y : Int) (by omega)]
                  exact (IntWalk.i64_in _ (by omega)).trans (by omega)
                have hn : IntKind.i64.wrap (dotT zs qs m c i k j + IntKind.i64.wrap (zs.getD (IntKind.i64.wrap (IntKind.i64.wrap ((i : Int) * xs.getD (Int.toNat 1) 0) + (j : Int))).toNat 0 * qs.getD (IntKind.i64.wrap (IntKind.i64.wrap ((j : Int) * ps.getD (Int.toNat 1) 0) + (k : Int))).toNat 0)) = dotT zs qs m c i k (j + 1) := by
                  rw [i1, i2, Int.toNat_natCast, Int.toNat_natCast]
                  rfl
                conv => whnf
                repeat' (first
                  | ((first | refine tree_in (id := 1) (.one 0 (.one 1 (.one 2 (.one 3 (.one 4 (.one 5 (.one 6 (.one 7 (.two 8 10 (.two 9 10 (.one 10 (.one 11 .nil)) (.one 9 (.one 11 .nil))) (.one 8 (.one 9 (.one 11 .nil)))))))))))) (by kernel_rfl) (by kernel_rfl) ?_ | refine plan_in (id := 12) [0, 1, 2, 3, 4, 5, 6, 7, 8, 9, 10, 11, 12, 13, 14, 15, 16, 17, 18, 19, 20, 21, 22, 23, 24, 25, 26, 27] (by kernel_rfl) (by kernel_rfl) ?_ | refine get_int (by omega) ?_ | refine aGet_in rfl ?_ | refine And.intro (by omega) ?_ | refine append_same ?_ | refine append_int rfl rfl (by first | rfl | (simp only [List.length_take, turned_length]; omega)) (by omega) (Nat.le_of_ble_eq_true rfl) ?_ | refine set_force ?_); conv => whnf) | (refine aIf_dec (fun _ => ?_) (fun _ => ?_) <;> conv => whnf))
                all_goals (first | (exfalso; omega) | skip)
                rw [hn]
                refine next_in (j + 1) (show m - (j + 1) < m - j by omega) (show j + 1 ≤ m by omega) ?_
                repeat' (first
                  | exact trivial | exact rfl
                  | exact Or.inl (And.intro rfl rfl) | exact le_ints rfl
                  | exact Or.inl (And.intro (pureL_pair _ _ _ _ _ _) rfl) | refine Or.inr ?_
                  | refine And.intro ?_ ?_ | exact Nat.le_of_ble_eq_true rfl
                  | exact int_eq (by rw [IntWalk.i64_in _ (by omega)] <;> omega))
              · have hje : j = m := by omega
                subst hje
                conv => whnf
                repeat' (first
                  | ((first | refine tree_in (id := 1) (.one 0 (.one 1 (.one 2 (.one 3 (.one 4 (.one 5 (.one 6 (.one 7 (.two 8 10 (.two 9 10 (.one 10 (.one 11 .nil)) (.one 9 (.one 11 .nil))) (.one 8 (.one 9 (.one 11 .nil)))))))))))) (by kernel_rfl) (by kernel_rfl) ?_ | refine plan_in (id := 12) [0, 1, 2, 3, 4, 5, 6, 7, 8, 9, 10, 11, 12, 13, 14, 15, 16, 17, 18, 19, 20, 21, 22, 23, 24, 25, 26, 27] (by kernel_rfl) (by kernel_rfl) ?_ | refine get_nat (by omega) ?_ | refine get_int (by omega) ?_ | refine aGet_in rfl ?_ | refine And.intro (by omega) ?_ | refine And.intro (Nat.le_of_ble_eq_true rfl) ?_ | refine append_same ?_ | refine append_int rfl rfl (by first | rfl | (simp only [List.length_take, turned_length]; omega)) (by omega) (Nat.le_of_ble_eq_true rfl) ?_ | refine set_force ?_ | refine And.intro (And.intro (by kernel_rfl) (And.intro rfl (Nat.le_of_ble_eq_true rfl))) ?_ | refine And.intro (by kernel_rfl) ?_); conv => whnf) | (refine aIf_dec (fun _ => ?_) (fun _ => ?_) <;> conv => whnf))
                all_goals (first | (exfalso; omega) | skip)
                refine next_in (k + 1, ws ++ [dotT zs qs j c i k j]) (show c - (k + 1) < c - k by omega) ⟨(show k + 1 ≤ c by omega), (by show (ws ++ [_]).length = _; simp [hl]; omega), hall0 hl hall hkc⟩ ?_
                repeat' (first
                  | exact trivial | exact rfl
                  | exact Or.inl (And.intro rfl rfl) | exact le_ints rfl
                  | exact Or.inl (And.intro (pureL_pair _ _ _ _ _ _) rfl) | refine Or.inr ?_
                  | refine And.intro ?_ ?_ | exact Nat.le_of_ble_eq_true rfl
                  | exact List.length_append | exact int_eq (by rw [IntWalk.i64_in _ (by omega)] <;> omega))
          · have hke : k = c := by omega
            conv => whnf
            repeat' (first
              | ((first | refine tree_in (id := 1) (.one 0 (.one 1 (.one 2 (.one 3 (.one 4 (.one 5 (.one 6 (.one 7 (.two 8 10 (.two 9 10 (.one 10 (.one 11 .nil)) (.one 9 (.one 11 .nil))) (.one 8 (.one 9 (.one 11 .nil)))))))))))) (by kernel_rfl) (by kernel_rfl) ?_ | refine plan_in (id := 12) [0, 1, 2, 3, 4, 5, 6, 7, 8, 9, 10, 11, 12, 13, 14, 15, 16, 17, 18, 19, 20, 21, 22, 23, 24, 25, 26, 27] (by kernel_rfl) (by kernel_rfl) ?_ | refine get_int (by omega) ?_ | refine aGet_in rfl ?_ | refine And.intro (by omega) ?_ | refine append_same ?_); conv => whnf) | (refine aIf_dec (fun _ => ?_) (fun _ => ?_) <;> conv => whnf))
            all_goals (first | (exfalso; omega) | skip)
            have e' : (i + 1) * c + 0 = i * c + k := by rw [Nat.add_mul]; omega
            refine next_in (i + 1, ws) (show r - (i + 1) < r - i by omega) ⟨(show i + 1 ≤ r by omega), (show ws.length = (i + 1) * c + 0 by omega), fun t ht => hall t (by have ht : t < (i + 1) * c + 0 := ht; omega)⟩ ?_
            repeat' (first
              | exact trivial | exact rfl
              | exact Or.inl (And.intro rfl rfl) | exact le_ints rfl
              | exact Or.inl (And.intro (pureL_pair _ _ _ _ _ _) rfl) | refine Or.inr ?_
              | refine And.intro ?_ ?_ | exact Nat.le_of_ble_eq_true rfl
              | exact int_eq (by rw [IntWalk.i64_in _ (by omega)] <;> omega))
      · have hie : i = r := by omega
        have hws : ws = prL zs qs (xs.getD 0 0).toNat (xs.getD 1 0).toNat (ps.getD 1 0).toNat := by
          rw [e0, e1, e3]
          subst hie
          exact getD_ext (by rw [Int.toNat_natCast, Int.toNat_natCast, Int.toNat_natCast, prL_length, hl]; rfl) fun j hj => by
            rw [Int.toNat_natCast, Int.toNat_natCast, Int.toNat_natCast] at hj ⊢
            rw [prL_length] at hj
            rw [hall j (by omega), prL_getD hj]
        subst hws
        conv => whnf
        repeat' (first
          | ((first | refine tree_in (id := 1) (.one 0 (.one 1 (.one 2 (.one 3 (.one 4 (.one 5 (.one 6 (.one 7 (.two 8 10 (.two 9 10 (.one 10 (.one 11 .nil)) (.one 9 (.one 11 .nil))) (.one 8 (.one 9 (.one 11 .nil)))))))))))) (by kernel_rfl) (by kernel_rfl) ?_ | refine plan_in (id := 12) [0, 1, 2, 3, 4, 5, 6, 7, 8, 9, 10, 11, 12, 13, 14, 15, 16, 17, 18, 19, 20, 21, 22, 23, 24, 25, 26, 27] (by kernel_rfl) (by kernel_rfl) ?_ | refine get_int (by omega) ?_ | refine aGet_in rfl ?_ | refine And.intro (by omega) ?_ | refine load_same ?_ | refine And.intro (Nat.le_of_ble_eq_true rfl) ?_ | refine append_same ?_ | refine takeN_in ?_ | refine set_force ?_ | refine And.intro (by kernel_rfl) ?_); conv => whnf) | (refine aIf_dec (fun _ => ?_) (fun _ => ?_) <;> conv => whnf))
        all_goals (first | (exfalso; omega) | skip)
        refine retT ?_ ?_ ?_ ?_ ?_
        all_goals (first | exact rfl | decide | (simp; done))
end Go.Proofs.YtjmdhfjemaoebaaGreat
namespace Go.Proofs.YtjmdhfjemaoebaaGreat
set_option maxRecDepth 20000
open Go.RowKit Go.Am
attribute [local irreducible] aPlan aGet aIf aLoop aCall RetB NextB CallB CallG aCut aSet aAppend
theorem l2Product_call {c d e f : Nat} {xs zs ps qs : List Int} {env : List AV} {rows : List Row} {ctr low : Nat} {k : AV → St → Prop} (hpre : prP xs zs ps qs)
    (hk : k (.agg [.ref rows.length ctr 0 2, .ref (rows.length + 1) ctr 0 (prL zs qs (xs.getD 0 0).toNat (xs.getD 1 0).toNat (ps.getD 1 0).toNat).length]) ⟨env, rows ++ [⟨ctr, 3, 1, [xs.getD 0 0, ps.getD 1 0].map (.int .i64)⟩, ⟨ctr, 3, 1, (prL zs qs (xs.getD 0 0).toNat (xs.getD 1 0).toNat (ps.getD 1 0).toNat).map (.int .i64)⟩], ctr + 1, low⟩) :
    CallB Tryz.prog 98 ⟨env, rows, ctr, low⟩ [.agg [.sl c xs.length (xs.map (.int .i64)), .sl d zs.length (zs.map (.int .i64))], .agg [.sl e ps.length (ps.map (.int .i64)), .sl f qs.length (qs.map (.int .i64))]] k := callT_in l2Product_sound (c, xs, d, zs, e, ps, f, qs) hpre hk
theorem iProductOf_call {c d e f : Nat} {xs zs ps qs : List Int} {env : List AV} {rows : List Row} {ctr low : Nat} {k : AV → St → Prop} (hpre : True)
    (hk : k (.tup [.agg [.ref rows.length ctr 0 (prM xs zs ps qs).1.length, .ref (rows.length + 1) ctr 0 (prM xs zs ps qs).2.1.length], .bool (prM xs zs ps qs).2.2]) ⟨env, rows ++ [⟨ctr, 3, 1, (prM xs zs ps qs).1.map (.int .i64)⟩, ⟨ctr, 3, 1, (prM xs zs ps qs).2.1.map (.int .i64)⟩], ctr + 1, low⟩) :
    CallB Tryz.prog 170 ⟨env, rows, ctr, low⟩ [.agg [.sl c xs.length (xs.map (.int .i64)), .sl d zs.length (zs.map (.int .i64))], .agg [.sl e ps.length (ps.map (.int .i64)), .sl f qs.length (qs.map (.int .i64))]] k := callTB_in iProductOf_sound (c, xs, d, zs, e, ps, f, qs) hpre hk
end Go.Proofs.YtjmdhfjemaoebaaGreat
namespace Go.Proofs.YtjmdhfjemaoebaaGreat
set_option maxRecDepth 20000
open Go.RowKit Go.Am
def bsSh (xs : List Int) (a : Nat) (p : Int) : List Int := xs.set a (xs.getD a 0 + p)
def bsStp (xs : List Int) (a : Nat) : Int := (strides xs).getD a 0
def bsA (xs : List Int) (a : Nat) : Nat := (bsStp xs a * xs.getD a 0).toNat
def bsB (xs : List Int) (a : Nat) (p : Int) : Nat := (bsStp xs a * p).toNat
def bsN (xs : List Int) (a : Nat) : Nat := (cntTo xs xs.length).toNat / bsA xs a
def bsRef (xs : List Int) (a : Nat) (p : Int) (i : Nat) : Bool × Int :=
  if (places (bsSh xs a p) i).getD a 0 < xs.getD a 0 then (true, idxTo xs (places (bsSh xs a p) i) xs.length)
  else (false, idxTo (xs.set a p) ((places (bsSh xs a p) i).set a ((places (bsSh xs a p) i).getD a 0 - xs.getD a 0)) xs.length)
def bsTurn (A B n : Nat) : List (Bool × Int) := (List.range n).flatMap fun i => ((List.range A).map fun j => (true, ((i * A + j : Nat) : Int))) ++ ((List.range B).map fun j => (false, ((i * B + j : Nat) : Int)))
def bsIn (xs : List Int) (a : Nat) (p : Int) (r : Bool × Int) : Bool := decide (0 ≤ r.2) && (if r.1 = true then decide (r.2 < cntTo xs xs.length) else decide (r.2 < cntTo (xs.set a p) (xs.set a p).length))
def bsGood (xs : List Int) (a : Nat) (p : Int) : Bool := shapeOk (bsSh xs a p) && ((bsTurn (bsA xs a) (bsB xs a p) (bsN xs a) == (List.range (cntTo (bsSh xs a p) (bsSh xs a p).length).toNat).map (bsRef xs a p)) &&
  (List.range (cntTo (bsSh xs a p) (bsSh xs a p).length).toNat).all fun i => bsIn xs a p (bsRef xs a p i))
def bsOne (xs : List Int) (a : Nat) (p : Int) : Bool := (cntTo xs xs.length == ((bsN xs a * bsA xs a : Nat) : Int)) && ((cntTo (xs.set a p) (xs.set a p).length == ((bsN xs a * bsB xs a p : Nat) : Int)) && (decide (1 ≤ bsA xs a ∧ bsA xs a ≤ 64 ∧ 1 ≤ bsB xs a p ∧ bsB xs a p ≤ 64) &&
  ((bsStp xs a * xs.getD a 0 == (bsA xs a : Int)) && ((bsStp xs a * p == (bsB xs a p : Int)) && (decide (4 < xs.getD a 0 + p) || bsGood xs a p)))))
def bsChk (xs : List Int) : Bool := (List.range xs.length).all fun a => sizes.all fun p => bsOne xs a p
theorem bsChk_2 : shapes2.all bsChk = true := by kernel_rfl
theorem bsChk_31 : (shapes3 1).all bsChk = true := by kernel_rfl
theorem bsChk_32 : (shapes3 2).all bsChk = true := by kernel_rfl
theorem bsChk_33 : (shapes3 3).all bsChk = true := by kernel_rfl
theorem bsChk_34 : (shapes3 4).all bsChk = true := by kernel_rfl
structure BsFacts (xs : List Int) (a : Nat) (p : Int) : Prop where
  cx : cntTo xs xs.length = ((bsN xs a * bsA xs a : Nat) : Int)
  cp : cntTo (xs.set a p) (xs.set a p).length = ((bsN xs a * bsB xs a p : Nat) : Int)
  ab : 1 ≤ bsA xs a ∧ bsA xs a ≤ 64 ∧ 1 ≤ bsB xs a p ∧ bsB xs a p ≤ 64
  ea : bsStp xs a * xs.getD a 0 = (bsA xs a : Int)
  eb : bsStp xs a * p = (bsB xs a p : Int)
  good : xs.getD a 0 + p ≤ 4 → shapeOk (bsSh xs a p) = true ∧ bsTurn (bsA xs a) (bsB xs a p) (bsN xs a) = (List.range (cntTo (bsSh xs a p) (bsSh xs a p).length).toNat).map (bsRef xs a p) ∧
    ∀ i : Nat, (i : Int) < cntTo (bsSh xs a p) (bsSh xs a p).length → bsIn xs a p (bsRef xs a p i) = true
theorem bs_facts {xs : List Int} (hs : shapeOk xs = true) {a : Nat} (ha : a < xs.length) {p : Int} (hp : 1 ≤ p ∧ p ≤ 4) : BsFacts xs a p := by
  have h := shape_all bsChk_2 bsChk_31 bsChk_32 bsChk_33 bsChk_34 hs
  unfold bsChk at h
  simp only [List.all_eq_true] at h
  have h := h a (List.mem_range.2 ha) p (size_mem hp)
  unfold bsOne at h
  simp only [Bool.and_eq_true, beq_iff_eq, decide_eq_true_eq, Bool.or_eq_true] at h
  obtain ⟨h1, h2, h3, h4, h5, h6⟩ := h
  refine ⟨h1, h2, h3, h4, h5, fun hle => ?_⟩
  rcases h6 with h6 | h6
  · omega
  unfold bsGood at h6
  simp only [Bool.and_eq_true, beq_iff_eq, List.all_eq_true] at h6
  exact ⟨h6.1, h6.2.1, fun i hi => h6.2.2 i (List.mem_range.2 (by omega))⟩
end Go.Proofs.YtjmdhfjemaoebaaGreat
