/- Chapter 2: ProductOf of the program. -/
import Derived.Test.YtegoncendpboiaaS21
namespace Go.Proofs.Ytegoncendpboiaa
set_option maxRecDepth 20000
open Go.RowKit Go.Am
attribute [local irreducible] aPlan aGet aIf aLoop aCall RetB NextB CallB CallG aCut aSet aAppend

/-- The sum of the products of a row and a column, as far as k. -/
def dotT (zs qs : List Int) (m c i j : Nat) : Nat → Int
  | 0 => 0
  | k + 1 => IntKind.i64.wrap (dotT zs qs m c i j k + IntKind.i64.wrap (zs.getD (i * m + k) 0 * qs.getD (k * c + j) 0))
def prL (zs qs : List Int) (r m c : Nat) : List Int := (List.range (r * c)).map fun i => dotT zs qs m c (i / c) (i % c) m
theorem prL_length (zs qs : List Int) (r m c : Nat) : (prL zs qs r m c).length = r * c := by simp [prL]
theorem prL_getD {zs qs : List Int} {r m c j : Nat} (h : j < r * c) : (prL zs qs r m c).getD j 0 = dotT zs qs m c (j / c) (j % c) m := range_getD h
def prP (xs zs ps qs : List Int) : Prop := tensorOk xs zs = true ∧ tensorOk ps qs = true ∧ xs.length = 2 ∧ ps.length = 2 ∧ xs.getD 1 0 = ps.getD 0 0
instance (xs zs ps qs : List Int) : Decidable (prP xs zs ps qs) := by unfold prP; infer_instance
def prM (xs zs ps qs : List Int) : TM := if prP xs zs ps qs then told [xs.getD 0 0, ps.getD 1 0] (prL zs qs (xs.getD 0 0).toNat (xs.getD 1 0).toNat (ps.getD 1 0).toNat) else noT
theorem prM_t {xs zs ps qs : List Int} (h : prP xs zs ps qs) : prM xs zs ps qs = told [xs.getD 0 0, ps.getD 1 0] (prL zs qs (xs.getD 0 0).toNat (xs.getD 1 0).toNat (ps.getD 1 0).toNat) := if_pos h
theorem prM_f {xs zs ps qs : List Int} (h : ¬ prP xs zs ps qs) : prM xs zs ps qs = noT := if_neg h
theorem prM_len (xs zs ps qs : List Int) : (prM xs zs ps qs).1.length ≤ 3 ∧ (prM xs zs ps qs).2.1.length ≤ 64 := by
  by_cases h : prP xs zs ps qs
  · rw [prM_t h]; exact told_len _ _
  · rw [prM_f h]; exact ⟨Nat.zero_le _, Nat.zero_le _⟩
theorem pix {r m i k : Nat} (hi : i < r) (hk : k < m) : i * m + k < r * m := by
  have h1 : (i + 1) * m ≤ r * m := Nat.mul_le_mul_right m hi
  rw [Nat.add_mul, Nat.one_mul] at h1
  omega
/-- What sizes and counts are of two tensors of two axes. -/
structure PrF (xs zs ps qs : List Int) (r m c : Nat) : Prop where
  e0 : xs.getD 0 0 = r
  e1 : xs.getD 1 0 = m
  e2 : ps.getD 0 0 = m
  e3 : ps.getD 1 0 = c
  r4 : 1 ≤ r ∧ r ≤ 4
  m4 : 1 ≤ m ∧ m ≤ 4
  c4 : 1 ≤ c ∧ c ≤ 4
  nz : zs.length = r * m
  nq : qs.length = m * c
theorem cnt2 {xs : List Int} (h : shapeOk xs = true) (h2 : xs.length = 2) : cntTo xs xs.length = xs.getD 0 0 * xs.getD 1 0 := by
  rw [h2, cnt_next h (k := 1) (by omega), cnt_next h (k := 0) (by omega)]
  have e : cntTo xs 0 = 1 := rfl
  rw [e, Int.one_mul]
theorem prF {xs zs ps qs : List Int} (h : prP xs zs ps qs) : ∃ r m c, PrF xs zs ps qs r m c := by
  obtain ⟨h1, h2, h3, h4, h5⟩ := h
  obtain ⟨s1, t1, _⟩ := (tensorOk_iff _ _).1 h1
  obtain ⟨s2, t2, _⟩ := (tensorOk_iff _ _).1 h2
  have z0 := size_in s1 (j := 0) (by omega)
  have z1 := size_in s1 (j := 1) (by omega)
  have z3 := size_in s2 (j := 1) (by omega)
  rw [cnt2 s1 h3] at t1
  rw [cnt2 s2 h4, ← h5] at t2
  obtain ⟨r, hr⟩ : ∃ r : Nat, xs.getD 0 0 = r := ⟨(xs.getD 0 0).toNat, by omega⟩
  obtain ⟨m, hm⟩ : ∃ m : Nat, xs.getD 1 0 = m := ⟨(xs.getD 1 0).toNat, by omega⟩
  obtain ⟨c, hc⟩ : ∃ c : Nat, ps.getD 1 0 = c := ⟨(ps.getD 1 0).toNat, by omega⟩
  rw [hr, hm, ← Int.natCast_mul] at t1
  rw [hm, hc, ← Int.natCast_mul] at t2
  exact ⟨r, m, c, hr, hm, by rw [← h5, hm], hc, by omega, by omega, by omega, by omega, by omega⟩
def sProductOf : CSpec := fnTB (ι := Nat × List Int × Nat × List Int × Nat × List Int × Nat × List Int) 3 (fun | (c, xs, d, zs, e, ps, f, qs) => [.agg [.sl c xs.length (xs.map (.int .i64)), .sl d zs.length (zs.map (.int .i64))], .agg [.sl e ps.length (ps.map (.int .i64)), .sl f qs.length (qs.map (.int .i64))]]) (fun _ => True) (fun | (_, xs, _, zs, _, ps, _, qs) => prM xs zs ps qs)
set_option maxHeartbeats 4000000 in
set_option maxRecDepth 10000 in
theorem iProductOf_sound : Sound Try.prog 24 sProductOf := by
  refine sound_of Try.func24 rfl (enters_of Try.func24 (by kernel_rfl) (by kernel_rfl)) ?_
  rintro ⟨cc, xs, d, zs, e, ps, f, qs⟩ -
  have hmax : maxLen = 9223372036854775807 := rfl
  by_cases hP : prP xs zs ps qs
  · have hP' := hP
    obtain ⟨ht, hu, h3, h4, h5⟩ := hP'
    obtain ⟨r, m, c, F⟩ := prF hP
    obtain ⟨e0, e1, e2, e3, r4, m4, c4, nz, nq⟩ := F
    have hM := prM_t hP
    rw [e0, e1, e3] at hM
    have hrc : r * c ≤ 16 := Nat.mul_le_mul r4.2 c4.2
    have g0 : xs.getD (Int.toNat 0) 0 = r := e0
    have g1 : xs.getD (Int.toNat 1) 0 = m := e1
    have g3 : ps.getD (Int.toNat 1) 0 = c := e3
    have g5 : ps.getD (Int.toNat 0) 0 = xs.getD (Int.toNat 1) 0 := h5.symm
    have hw : IntKind.i64.wrap (xs.getD (Int.toNat 0) 0 * ps.getD (Int.toNat 1) 0) = ((r * c : Nat) : Int) := by rw [g0, g3, ← Int.natCast_mul]; exact IntWalk.i64_in _ (by omega)
    have hwn : (IntKind.i64.wrap (xs.getD (Int.toNat 0) 0 * ps.getD (Int.toNat 1) 0)).toNat = r * c := by rw [hw]; rfl
    conv => whnf
    repeat' (first
      | (refine plan_in (id := 17) [0, 1, 2, 3, 4, 5, 6, 7, 8, 9, 10, 11, 12, 13, 14, 15, 16, 17, 18, 19, 20, 21, 22, 23, 24, 25] (by kernel_rfl) (by kernel_rfl) ?_; conv => whnf)
      | (refine aIf_t ?_; conv => whnf)
      | (refine aIf_f ?_; conv => whnf)
      | (refine fun (_ : _ ≤ maxLen) => ?_; conv => whnf)
      | (refine get_nat0 (by omega) ?_; conv => whnf)
      | (refine get_int0 (by omega) ?_; conv => whnf)
      | (refine get_nat (by omega) ?_; conv => whnf)
      | (refine get_int (by omega) ?_; conv => whnf)
      | (refine aGet_in rfl ?_; conv => whnf)
      | (refine And.intro (And.intro rfl (And.intro (by kernel_rfl) (And.intro rfl (by kernel_rfl)))) (And.intro (And.intro (by omega) (And.intro (bytes_le (b := 8) rfl (by omega)) (by omega))) ?_); conv => whnf)
      | (refine And.intro (by omega) ?_; conv => whnf)
      | (refine load_same ?_; conv => whnf)
      | (refine And.intro (by rw [List.length_map]; omega) ?_; conv => whnf)
      | (refine And.intro rfl (And.intro (List.cons_ne_nil _ _) ?_); conv => whnf)
      | (refine And.intro (Nat.le_of_ble_eq_true rfl) ?_; conv => whnf)
      | (refine orNone_call _ _ rfl rfl (by decide) (by first | rfl | omega) (by first | rfl | omega) (fun _ => ?_) (fun _ => ?_) <;> conv => whnf)
      | (refine orNone_call [_, _] _ rfl rfl (by decide) (by first | rfl | omega) (by first | rfl | omega) (fun _ => ?_) (fun _ => ?_) <;> conv => whnf)
      | (refine callG_t ?_; conv => whnf)
      | (refine iTensorOk_call ?_; conv => whnf)
      | (refine And.intro (And.intro rfl (And.intro (by kernel_rfl) (And.intro rfl (by kernel_rfl)))) (And.intro (And.intro (by omega) (And.intro (bytes_le (b := 24) rfl (by omega)) (by omega))) ?_); conv => whnf)
      | (refine And.intro (And.intro rfl (And.intro (by kernel_rfl) (And.intro rfl (by kernel_rfl)))) (And.intro (And.intro (by omega) (And.intro (bytes_le (b := 48) rfl (by omega)) (by omega))) ?_); conv => whnf)
      | (refine takeN_in ?_; conv => whnf)
      | (refine And.intro (pureL_ints _ _) ?_; conv => whnf)
      | (refine And.intro (pureL_take _ _ _) ?_; conv => whnf)
      | (refine And.intro (pureL_cut _ _ _ _) ?_; conv => whnf)
      | (refine cut_ints ?_; conv => whnf)
      | (refine cut_marks ?_; conv => whnf)
      | (refine cut_all rfl (scalL_ints _ _) ?_; conv => whnf)
      | (refine cut_all (by simp only [List.length_map]; omega) (scalL_ints _ _) ?_; conv => whnf)
      | (refine append_int rfl rfl (by first | rfl | (simp only [List.length_take, turned_length]; omega)) (by omega) (Nat.le_of_ble_eq_true rfl) ?_; conv => whnf)
      | (refine And.intro rfl (And.intro rfl (And.intro (by first | omega | (rw [List.length_map]; omega)) ?_)); conv => whnf)
      | (refine set_nat ?_ (by omega); conv => whnf)
      | (refine set_int ?_ (by omega); conv => whnf)
      | (refine set_bool ?_ (by omega); conv => whnf)
      | (refine set_force ?_; conv => whnf)
      | (refine get_bool0 (by omega) ?_; conv => whnf)
      | (refine And.intro (And.intro rfl (And.intro (by kernel_rfl) (And.intro rfl (by kernel_rfl)))) (And.intro (And.intro (by omega) (And.intro (bytes_le (b := 1) rfl (by omega)) (by omega))) ?_); conv => whnf)
      | (refine And.intro (And.intro (by kernel_rfl) (And.intro rfl (Nat.le_of_ble_eq_true rfl))) ?_; conv => whnf)
      | (refine And.intro (And.intro (by kernel_rfl) (by kernel_rfl)) ?_; conv => whnf)
      | (refine And.intro (by kernel_rfl) ?_; conv => whnf)
      | (refine aIf_tt (by assumption) ?_; conv => whnf)
      | (refine aIf_ff (by assumption) ?_; conv => whnf)
      | refine aIf_eqt ?_
      | refine aIf_eqf ?_
      | refine aIf_not ?_
      | (refine aIf_bself ?_; conv => whnf)
      | (refine aIf_beself ?_; conv => whnf)
      | (refine aIf_iself ?_; conv => whnf)
      | (refine aIf_decself ?_; conv => whnf)
      | (refine aIf_dec (fun _ => ?_) (fun _ => ?_) <;> conv => whnf)
      | (refine aIf_beq (fun _ => ?_) (fun _ => ?_) <;> conv => whnf)
      | (refine aIf_bne (fun _ => ?_) (fun _ => ?_) <;> conv => whnf)
      | (refine aIf_bbne (fun _ => ?_) (fun _ => ?_) <;> conv => whnf)
      | (refine aIf_bbeq (fun _ => ?_) (fun _ => ?_) <;> conv => whnf)
      | (refine aIf_in (fun _ => ?_) (fun _ => ?_) <;> conv => whnf))
    all_goals (first | (exfalso; omega) | skip)
    rw [hwn]
    refine loop_in (ι := Nat × List Int) (fun | (k, ws) => ⟨[.un, .un, .ptr 0 1 0, .ptr 1 2 0, .ptr 4 5 0, .un, .int .i64 r, .int .i64 m, .int .i64 c, .ref 5 8 0 (r * c), .un, .un, .un, .un, .un, .un, .un, .un, .un, .un, .un, .un, .un, .un, .un, .un, .un, .un, .un, .un, .un, .un, .un, .un, .un, .un, .un, .un, .un, .un, .un, .un, .un, .un, .un, .un, .un, .un, .un, .un, .un, .un, .un, .un, .un, .un, .un, .un, .un, .int .i64 ((r * c : Nat) : Int), .int .i64 k, .un, .un, .un, .un, .un, .un, .un, .un, .un, .un, .un, .un, .un, .un, .un, .un, .un, .un, .un, .un, .un, .un, .un, .un, .un, .un, .un, .un, .un, .un, .un, .un, .un, .un, .un, .un, .un, .un, .un, .un, .un, .un, .un, .un, .un, .un], [bt 1 [.sl cc xs.length (xs.map (.int .i64)), .sl d zs.length (zs.map (.int .i64))], bt 2 [.sl e ps.length (ps.map (.int .i64)), .sl f qs.length (qs.map (.int .i64))], nl 3, nl 4, bt 5 [.ref 2 3 0 0, .ref 3 4 0 0], li 8 ws], 9, 0⟩)
      (fun x => x.1 ≤ r * c ∧ x.2.length = r * c ∧ ∀ j, j < r * c → x.2.getD j 0 = if j < x.1 then dotT zs qs m c (j / c) (j % c) m else 0) (fun x => r * c - x.1) (0, List.replicate (r * c) 0) ⟨Nat.zero_le _, by simp, fun j hj => ?_⟩ ?_ ?_
    · show (List.replicate (r * c) (0 : Int)).getD j 0 = if j < 0 then _ else 0
      rw [if_neg (Nat.not_lt_zero j)]
      simp [List.getD, hj]
    · repeat' (first
        | exact trivial
        | exact rfl
        | exact pureL_ints _ _
        | exact pureL_bools _
        | exact Or.inl (And.intro rfl rfl)
        | exact Or.inl (And.intro (pureL_box _ _) rfl)
        | exact le_ints rfl
        | exact le_ints (rep_ints _ _)
        | exact le_bools rfl
        | exact le_bools (rep_bools _)
        | exact Or.inl (And.intro (pureL_pair _ _ _ _ _ _) rfl)
        | refine le_ints ?_
        | refine Or.inr ?_
        | refine And.intro ?_ ?_
        | exact Nat.le_of_ble_eq_true rfl
        | exact Nat.zero_le _
        | exact int_eq (by assumption)
        | exact int_eq (by omega)
        | exact int_eq (Int.add_zero _).symm
        | exact List.length_append
        | exact int_eq (by rw [IntWalk.i64_in _ (by omega)] <;> omega))
    · rintro ⟨k, ws⟩ ⟨hk, hl, hall⟩
      have hk : k ≤ r * c := hk
      have hl : ws.length = r * c := hl
      have hall : ∀ j, j < r * c → ws.getD j 0 = if j < k then dotT zs qs m c (j / c) (j % c) m else 0 := hall
      by_cases hlt : k < r * c
      · have hwk : ws.getD k 0 = 0 := by rw [hall k hlt, if_neg (Nat.lt_irrefl k)]
        have d1 : k / c < r := Nat.div_lt_of_lt_mul (by rw [Nat.mul_comm]; exact hlt)
        have d2 : k % c < c := Nat.mod_lt _ (by omega)
        have d3 : k / c ≤ k := Nat.div_le_self _ _
        have q1 : IntKind.i64.wrap ((k : Int).tdiv (c : Int)) = ((k / c : Nat) : Int) := by
          rw [← Int.ofNat_tdiv]
          generalize k / c = y at d3 ⊢
          exact IntWalk.i64_in _ (by omega)
        have q2 : (k : Int).tmod (c : Int) = ((k % c : Nat) : Int) := by rw [← Int.ofNat_tmod]
        have hset : ws.set k (dotT zs qs m c (k / c) (k % c) 0) = ws := getD_ext (by simp) fun j hj => by
          rw [getD_set (by omega)]
          split
          · rename_i e'; subst e'; exact hwk.symm
          · rfl
        conv => whnf
        repeat' (first
          | (refine plan_in (id := 17) [0, 1, 2, 3, 4, 5, 6, 7, 8, 9, 10, 11, 12, 13, 14, 15, 16, 17, 18, 19, 20, 21, 22, 23, 24, 25] (by kernel_rfl) (by kernel_rfl) ?_; conv => whnf)
          | (refine aIf_t ?_; conv => whnf)
          | (refine aIf_f ?_; conv => whnf)
          | (refine fun (_ : _ ≤ maxLen) => ?_; conv => whnf)
          | (refine get_nat0 (by omega) ?_; conv => whnf)
          | (refine get_int0 (by omega) ?_; conv => whnf)
          | (refine get_nat (by omega) ?_; conv => whnf)
          | (refine get_int (by omega) ?_; conv => whnf)
          | (refine aGet_in rfl ?_; conv => whnf)
          | (refine And.intro (And.intro rfl (And.intro (by kernel_rfl) (And.intro rfl (by kernel_rfl)))) (And.intro (And.intro (by omega) (And.intro (bytes_le (b := 8) rfl (by omega)) (by omega))) ?_); conv => whnf)
          | (refine And.intro (by omega) ?_; conv => whnf)
          | (refine load_same ?_; conv => whnf)
          | (refine And.intro (by rw [List.length_map]; omega) ?_; conv => whnf)
          | (refine And.intro rfl (And.intro (List.cons_ne_nil _ _) ?_); conv => whnf)
          | (refine And.intro (Nat.le_of_ble_eq_true rfl) ?_; conv => whnf)
          | (refine orNone_call _ _ rfl rfl (by decide) (by first | rfl | omega) (by first | rfl | omega) (fun _ => ?_) (fun _ => ?_) <;> conv => whnf)
          | (refine orNone_call [_, _] _ rfl rfl (by decide) (by first | rfl | omega) (by first | rfl | omega) (fun _ => ?_) (fun _ => ?_) <;> conv => whnf)
          | (refine callG_t ?_; conv => whnf)
          | (refine iTensorOk_call ?_; conv => whnf)
          | (refine And.intro (And.intro rfl (And.intro (by kernel_rfl) (And.intro rfl (by kernel_rfl)))) (And.intro (And.intro (by omega) (And.intro (bytes_le (b := 24) rfl (by omega)) (by omega))) ?_); conv => whnf)
          | (refine And.intro (And.intro rfl (And.intro (by kernel_rfl) (And.intro rfl (by kernel_rfl)))) (And.intro (And.intro (by omega) (And.intro (bytes_le (b := 48) rfl (by omega)) (by omega))) ?_); conv => whnf)
          | (refine takeN_in ?_; conv => whnf)
          | (refine And.intro (pureL_ints _ _) ?_; conv => whnf)
          | (refine And.intro (pureL_take _ _ _) ?_; conv => whnf)
          | (refine And.intro (pureL_cut _ _ _ _) ?_; conv => whnf)
          | (refine cut_ints ?_; conv => whnf)
          | (refine cut_marks ?_; conv => whnf)
          | (refine cut_all rfl (scalL_ints _ _) ?_; conv => whnf)
          | (refine cut_all (by simp only [List.length_map]; omega) (scalL_ints _ _) ?_; conv => whnf)
          | (refine append_int rfl rfl (by first | rfl | (simp only [List.length_take, turned_length]; omega)) (by omega) (Nat.le_of_ble_eq_true rfl) ?_; conv => whnf)
          | (refine And.intro rfl (And.intro rfl (And.intro (by first | omega | (rw [List.length_map]; omega)) ?_)); conv => whnf)
          | (refine set_nat ?_ (by omega); conv => whnf)
          | (refine set_int ?_ (by omega); conv => whnf)
          | (refine set_bool ?_ (by omega); conv => whnf)
          | (refine set_force ?_; conv => whnf)
          | (refine get_bool0 (by omega) ?_; conv => whnf)
          | (refine And.intro (And.intro rfl (And.intro (by kernel_rfl) (And.intro rfl (by kernel_rfl)))) (And.intro (And.intro (by omega) (And.intro (bytes_le (b := 1) rfl (by omega)) (by omega))) ?_); conv => whnf)
          | (refine And.intro (And.intro (by kernel_rfl) (And.intro rfl (Nat.le_of_ble_eq_true rfl))) ?_; conv => whnf)
          | (refine And.intro (And.intro (by kernel_rfl) (by kernel_rfl)) ?_; conv => whnf)
          | (refine And.intro (by kernel_rfl) ?_; conv => whnf)
          | (refine aIf_tt (by assumption) ?_; conv => whnf)
          | (refine aIf_ff (by assumption) ?_; conv => whnf)
          | refine aIf_eqt ?_
          | refine aIf_eqf ?_
          | refine aIf_not ?_
          | (refine aIf_bself ?_; conv => whnf)
          | (refine aIf_beself ?_; conv => whnf)
          | (refine aIf_iself ?_; conv => whnf)
          | (refine aIf_decself ?_; conv => whnf)
          | (refine aIf_dec (fun _ => ?_) (fun _ => ?_) <;> conv => whnf)
          | (refine aIf_beq (fun _ => ?_) (fun _ => ?_) <;> conv => whnf)
          | (refine aIf_bne (fun _ => ?_) (fun _ => ?_) <;> conv => whnf)
          | (refine aIf_bbne (fun _ => ?_) (fun _ => ?_) <;> conv => whnf)
          | (refine aIf_bbeq (fun _ => ?_) (fun _ => ?_) <;> conv => whnf)
          | (refine aIf_in (fun _ => ?_) (fun _ => ?_) <;> conv => whnf))
        all_goals (first | (exfalso; omega) | skip)
        refine loop_in (ι := Nat) (fun q => ⟨[.un, .un, .ptr 0 1 0, .ptr 1 2 0, .ptr 4 5 0, .un, .int .i64 r, .int .i64 m, .int .i64 c, .ref 5 8 0 (r * c), .int .i64 k, .int .i64 ((k / c : Nat) : Int), .int .i64 ((k % c : Nat) : Int), .un, .un, .un, .un, .un, .un, .un, .un, .un, .un, .un, .un, .un, .un, .un, .un, .un, .un, .un, .un, .un, .un, .un, .un, .un, .un, .un, .un, .un, .un, .un, .un, .un, .un, .un, .un, .un, .un, .un, .un, .un, .un, .un, .un, .un, .un, .int .i64 ((r * c : Nat) : Int), .int .i64 k, .un, .un, .un, .un, .un, .un, .un, .un, .int .i64 m, .int .i64 q, .un, .un, .un, .un, .un, .un, .un, .un, .un, .un, .un, .un, .un, .un, .un, .un, .un, .un, .un, .un, .un, .un, .un, .un, .un, .un, .un, .un, .un, .un, .un, .un, .un, .un, .un, .un], [bt 1 [.sl cc xs.length (xs.map (.int .i64)), .sl d zs.length (zs.map (.int .i64))], bt 2 [.sl e ps.length (ps.map (.int .i64)), .sl f qs.length (qs.map (.int .i64))], nl 3, nl 4, bt 5 [.ref 2 3 0 0, .ref 3 4 0 0], li 8 (ws.set k (dotT zs qs m c (k / c) (k % c) q))], 9, 0⟩)
          (fun q => q ≤ m) (fun q => m - q) 0 (Nat.zero_le _) ?_ ?_
        · repeat' (first
            | exact trivial
            | exact rfl
            | exact pureL_ints _ _
            | exact pureL_bools _
            | exact Or.inl (And.intro rfl rfl)
            | exact Or.inl (And.intro (pureL_box _ _) rfl)
            | exact le_ints rfl
            | exact le_ints (rep_ints _ _)
            | exact le_bools rfl
            | exact le_bools (rep_bools _)
            | exact Or.inl (And.intro (pureL_pair _ _ _ _ _ _) rfl)
            | refine le_ints ?_
            | refine Or.inr ?_
            | refine And.intro ?_ ?_
            | exact Nat.le_of_ble_eq_true rfl
            | exact Nat.zero_le _
            | exact int_eq (by assumption)
            | exact int_eq (by omega)
            | exact int_eq (Int.add_zero _).symm
            | exact List.length_append
            | exact int_eq (by rw [IntWalk.i64_in _ (by omega)] <;> omega))
          all_goals exact congrArg (List.map (AV.int .i64)) hset.symm
        · intro q hq
          have hq : q ≤ m := hq
          have hls : (ws.set k (dotT zs qs m c (k / c) (k % c) q)).length = r * c := by rw [List.length_set]; exact hl
          by_cases hqm : q < m
          · have p1 := pix d1 hqm
            have p2 := pix hqm d2
            have b1 : r * m ≤ 16 := Nat.mul_le_mul r4.2 m4.2
            have b2 : m * c ≤ 16 := Nat.mul_le_mul m4.2 c4.2
            have i1 : IntKind.i64.wrap (IntKind.i64.wrap (((k / c : Nat) : Int) * (m : Int)) + (q : Int)) = ((k / c * m + q : Nat) : Int) := by
              rw [← Int.natCast_mul]
              generalize k / c * m = y at p1 ⊢
              rw [IntWalk.i64_in (y : Int) (by omega)]
              exact (IntWalk.i64_in _ (by omega)).trans (by omega)
            have i2 : IntKind.i64.wrap (IntKind.i64.wrap ((q : Int) * (c : Int)) + ((k % c : Nat) : Int)) = ((q * c + k % c : Nat) : Int) := by
              rw [← Int.natCast_mul]
              generalize q * c = y at p2 ⊢
              generalize k % c = z at p2 ⊢
              rw [IntWalk.i64_in (y : Int) (by omega)]
              exact (IntWalk.i64_in _ (by omega)).trans (by omega)
            have hnx : (ws.set k (dotT zs qs m c (k / c) (k % c) q)).set k (IntKind.i64.wrap ((ws.set k (dotT zs qs m c (k / c) (k % c) q)).getD k 0 + IntKind.i64.wrap (zs.getD (IntKind.i64.wrap (IntKind.i64.wrap (((k / c : Nat) : Int) * (m : Int)) + (q : Int))).toNat 0 * qs.getD (IntKind.i64.wrap (IntKind.i64.wrap ((q : Int) * (c : Int)) + ((k % c : Nat) : Int))).toNat 0))) = ws.set k (dotT zs qs m c (k / c) (k % c) (q + 1)) := by
              rw [i1, i2, Int.toNat_natCast, Int.toNat_natCast, getD_set (by omega), if_pos rfl, List.set_set]
              rfl
            conv => whnf
            repeat' (first
              | (refine plan_in (id := 17) [0, 1, 2, 3, 4, 5, 6, 7, 8, 9, 10, 11, 12, 13, 14, 15, 16, 17, 18, 19, 20, 21, 22, 23, 24, 25] (by kernel_rfl) (by kernel_rfl) ?_; conv => whnf)
              | (refine aIf_t ?_; conv => whnf)
              | (refine aIf_f ?_; conv => whnf)
              | (refine fun (_ : _ ≤ maxLen) => ?_; conv => whnf)
              | (refine get_nat0 (by omega) ?_; conv => whnf)
              | (refine get_int0 (by omega) ?_; conv => whnf)
              | (refine get_nat (by omega) ?_; conv => whnf)
              | (refine get_int (by omega) ?_; conv => whnf)
              | (refine aGet_in rfl ?_; conv => whnf)
              | (refine And.intro (And.intro rfl (And.intro (by kernel_rfl) (And.intro rfl (by kernel_rfl)))) (And.intro (And.intro (by omega) (And.intro (bytes_le (b := 8) rfl (by omega)) (by omega))) ?_); conv => whnf)
              | (refine And.intro (by omega) ?_; conv => whnf)
              | (refine load_same ?_; conv => whnf)
              | (refine And.intro (by rw [List.length_map]; omega) ?_; conv => whnf)
              | (refine And.intro rfl (And.intro (List.cons_ne_nil _ _) ?_); conv => whnf)
              | (refine And.intro (Nat.le_of_ble_eq_true rfl) ?_; conv => whnf)
              | (refine orNone_call _ _ rfl rfl (by decide) (by first | rfl | omega) (by first | rfl | omega) (fun _ => ?_) (fun _ => ?_) <;> conv => whnf)
              | (refine orNone_call [_, _] _ rfl rfl (by decide) (by first | rfl | omega) (by first | rfl | omega) (fun _ => ?_) (fun _ => ?_) <;> conv => whnf)
              | (refine callG_t ?_; conv => whnf)
              | (refine iTensorOk_call ?_; conv => whnf)
              | (refine And.intro (And.intro rfl (And.intro (by kernel_rfl) (And.intro rfl (by kernel_rfl)))) (And.intro (And.intro (by omega) (And.intro (bytes_le (b := 24) rfl (by omega)) (by omega))) ?_); conv => whnf)
              | (refine And.intro (And.intro rfl (And.intro (by kernel_rfl) (And.intro rfl (by kernel_rfl)))) (And.intro (And.intro (by omega) (And.intro (bytes_le (b := 48) rfl (by omega)) (by omega))) ?_); conv => whnf)
              | (refine takeN_in ?_; conv => whnf)
              | (refine And.intro (pureL_ints _ _) ?_; conv => whnf)
              | (refine And.intro (pureL_take _ _ _) ?_; conv => whnf)
              | (refine And.intro (pureL_cut _ _ _ _) ?_; conv => whnf)
              | (refine cut_ints ?_; conv => whnf)
              | (refine cut_marks ?_; conv => whnf)
              | (refine cut_all rfl (scalL_ints _ _) ?_; conv => whnf)
              | (refine cut_all (by simp only [List.length_map]; omega) (scalL_ints _ _) ?_; conv => whnf)
              | (refine append_int rfl rfl (by first | rfl | (simp only [List.length_take, turned_length]; omega)) (by omega) (Nat.le_of_ble_eq_true rfl) ?_; conv => whnf)
              | (refine And.intro rfl (And.intro rfl (And.intro (by first | omega | (rw [List.length_map]; omega)) ?_)); conv => whnf)
              | (refine set_nat ?_ (by omega); conv => whnf)
              | (refine set_int ?_ (by omega); conv => whnf)
              | (refine set_bool ?_ (by omega); conv => whnf)
              | (refine set_force ?_; conv => whnf)
              | (refine get_bool0 (by omega) ?_; conv => whnf)
              | (refine And.intro (And.intro rfl (And.intro (by kernel_rfl) (And.intro rfl (by kernel_rfl)))) (And.intro (And.intro (by omega) (And.intro (bytes_le (b := 1) rfl (by omega)) (by omega))) ?_); conv => whnf)
              | (refine And.intro (And.intro (by kernel_rfl) (And.intro rfl (Nat.le_of_ble_eq_true rfl))) ?_; conv => whnf)
              | (refine And.intro (And.intro (by kernel_rfl) (by kernel_rfl)) ?_; conv => whnf)
              | (refine And.intro (by kernel_rfl) ?_; conv => whnf)
              | (refine aIf_tt (by assumption) ?_; conv => whnf)
              | (refine aIf_ff (by assumption) ?_; conv => whnf)
              | refine aIf_eqt ?_
              | refine aIf_eqf ?_
              | refine aIf_not ?_
              | (refine aIf_bself ?_; conv => whnf)
              | (refine aIf_beself ?_; conv => whnf)
              | (refine aIf_iself ?_; conv => whnf)
              | (refine aIf_decself ?_; conv => whnf)
              | (refine aIf_dec (fun _ => ?_) (fun _ => ?_) <;> conv => whnf)
              | (refine aIf_beq (fun _ => ?_) (fun _ => ?_) <;> conv => whnf)
              | (refine aIf_bne (fun _ => ?_) (fun _ => ?_) <;> conv => whnf)
              | (refine aIf_bbne (fun _ => ?_) (fun _ => ?_) <;> conv => whnf)
              | (refine aIf_bbeq (fun _ => ?_) (fun _ => ?_) <;> conv => whnf)
              | (refine aIf_in (fun _ => ?_) (fun _ => ?_) <;> conv => whnf))
            all_goals (first | (exfalso; omega) | skip)
            rw [hnx]
            refine next_in (q + 1) (show m - (q + 1) < m - q by omega) (show q + 1 ≤ m by omega) ?_
            repeat' (first
              | exact trivial
              | exact rfl
              | exact pureL_ints _ _
              | exact pureL_bools _
              | exact Or.inl (And.intro rfl rfl)
              | exact Or.inl (And.intro (pureL_box _ _) rfl)
              | exact le_ints rfl
              | exact le_ints (rep_ints _ _)
              | exact le_bools rfl
              | exact le_bools (rep_bools _)
              | exact Or.inl (And.intro (pureL_pair _ _ _ _ _ _) rfl)
              | refine le_ints ?_
              | refine Or.inr ?_
              | refine And.intro ?_ ?_
              | exact Nat.le_of_ble_eq_true rfl
              | exact Nat.zero_le _
              | exact int_eq (by assumption)
              | exact int_eq (by omega)
              | exact int_eq (Int.add_zero _).symm
              | exact List.length_append
              | exact int_eq (by rw [IntWalk.i64_in _ (by omega)] <;> omega))
          · have hqe : q = m := by omega
            subst hqe
            conv => whnf
            repeat' (first
              | (refine plan_in (id := 17) [0, 1, 2, 3, 4, 5, 6, 7, 8, 9, 10, 11, 12, 13, 14, 15, 16, 17, 18, 19, 20, 21, 22, 23, 24, 25] (by kernel_rfl) (by kernel_rfl) ?_; conv => whnf)
              | (refine aIf_t ?_; conv => whnf)
              | (refine aIf_f ?_; conv => whnf)
              | (refine fun (_ : _ ≤ maxLen) => ?_; conv => whnf)
              | (refine get_nat0 (by omega) ?_; conv => whnf)
              | (refine get_int0 (by omega) ?_; conv => whnf)
              | (refine get_nat (by omega) ?_; conv => whnf)
              | (refine get_int (by omega) ?_; conv => whnf)
              | (refine aGet_in rfl ?_; conv => whnf)
              | (refine And.intro (And.intro rfl (And.intro (by kernel_rfl) (And.intro rfl (by kernel_rfl)))) (And.intro (And.intro (by omega) (And.intro (bytes_le (b := 8) rfl (by omega)) (by omega))) ?_); conv => whnf)
              | (refine And.intro (by omega) ?_; conv => whnf)
              | (refine load_same ?_; conv => whnf)
              | (refine And.intro (by rw [List.length_map]; omega) ?_; conv => whnf)
              | (refine And.intro rfl (And.intro (List.cons_ne_nil _ _) ?_); conv => whnf)
              | (refine And.intro (Nat.le_of_ble_eq_true rfl) ?_; conv => whnf)
              | (refine orNone_call _ _ rfl rfl (by decide) (by first | rfl | omega) (by first | rfl | omega) (fun _ => ?_) (fun _ => ?_) <;> conv => whnf)
              | (refine orNone_call [_, _] _ rfl rfl (by decide) (by first | rfl | omega) (by first | rfl | omega) (fun _ => ?_) (fun _ => ?_) <;> conv => whnf)
              | (refine callG_t ?_; conv => whnf)
              | (refine iTensorOk_call ?_; conv => whnf)
              | (refine And.intro (And.intro rfl (And.intro (by kernel_rfl) (And.intro rfl (by kernel_rfl)))) (And.intro (And.intro (by omega) (And.intro (bytes_le (b := 24) rfl (by omega)) (by omega))) ?_); conv => whnf)
              | (refine And.intro (And.intro rfl (And.intro (by kernel_rfl) (And.intro rfl (by kernel_rfl)))) (And.intro (And.intro (by omega) (And.intro (bytes_le (b := 48) rfl (by omega)) (by omega))) ?_); conv => whnf)
              | (refine takeN_in ?_; conv => whnf)
              | (refine And.intro (pureL_ints _ _) ?_; conv => whnf)
              | (refine And.intro (pureL_take _ _ _) ?_; conv => whnf)
              | (refine And.intro (pureL_cut _ _ _ _) ?_; conv => whnf)
              | (refine cut_ints ?_; conv => whnf)
              | (refine cut_marks ?_; conv => whnf)
              | (refine cut_all rfl (scalL_ints _ _) ?_; conv => whnf)
              | (refine cut_all (by simp only [List.length_map]; omega) (scalL_ints _ _) ?_; conv => whnf)
              | (refine append_int rfl rfl (by first | rfl | (simp only [List.length_take, turned_length]; omega)) (by omega) (Nat.le_of_ble_eq_true rfl) ?_; conv => whnf)
              | (refine And.intro rfl (And.intro rfl (And.intro (by first | omega | (rw [List.length_map]; omega)) ?_)); conv => whnf)
              | (refine set_nat ?_ (by omega); conv => whnf)
              | (refine set_int ?_ (by omega); conv => whnf)
              | (refine set_bool ?_ (by omega); conv => whnf)
              | (refine set_force ?_; conv => whnf)
              | (refine get_bool0 (by omega) ?_; conv => whnf)
              | (refine And.intro (And.intro rfl (And.intro (by kernel_rfl) (And.intro rfl (by kernel_rfl)))) (And.intro (And.intro (by omega) (And.intro (bytes_le (b := 1) rfl (by omega)) (by omega))) ?_); conv => whnf)
              | (refine And.intro (And.intro (by kernel_rfl) (And.intro rfl (Nat.le_of_ble_eq_true rfl))) ?_; conv => whnf)
              | (refine And.intro (And.intro (by kernel_rfl) (by kernel_rfl)) ?_; conv => whnf)
              | (refine And.intro (by kernel_rfl) ?_; conv => whnf)
              | (refine aIf_tt (by assumption) ?_; conv => whnf)
              | (refine aIf_ff (by assumption) ?_; conv => whnf)
              | refine aIf_eqt ?_
              | refine aIf_eqf ?_
              | refine aIf_not ?_
              | (refine aIf_bself ?_; conv => whnf)
              | (refine aIf_beself ?_; conv => whnf)
              | (refine aIf_iself ?_; conv => whnf)
              | (refine aIf_decself ?_; conv => whnf)
              | (refine aIf_dec (fun _ => ?_) (fun _ => ?_) <;> conv => whnf)
              | (refine aIf_beq (fun _ => ?_) (fun _ => ?_) <;> conv => whnf)
              | (refine aIf_bne (fun _ => ?_) (fun _ => ?_) <;> conv => whnf)
              | (refine aIf_bbne (fun _ => ?_) (fun _ => ?_) <;> conv => whnf)
              | (refine aIf_bbeq (fun _ => ?_) (fun _ => ?_) <;> conv => whnf)
              | (refine aIf_in (fun _ => ?_) (fun _ => ?_) <;> conv => whnf))
            all_goals (first | (exfalso; omega) | skip)
            refine next_in (k + 1, ws.set k (dotT zs qs q c (k / c) (k % c) q)) (show r * c - (k + 1) < r * c - k by omega) ⟨(show k + 1 ≤ r * c by omega), hls, fun j hj => ?_⟩ ?_
            · show (ws.set k (dotT zs qs q c (k / c) (k % c) q)).getD j 0 = if j < k + 1 then _ else _
              rw [getD_set (by omega)]
              split
              · rename_i e'; subst e'; rw [if_pos (by omega)]
              · rw [hall j hj]
                by_cases h : j < k
                · rw [if_pos h, if_pos (by omega)]
                · rw [if_neg h, if_neg (by omega)]
            · repeat' (first
                | exact trivial
                | exact rfl
                | exact pureL_ints _ _
                | exact pureL_bools _
                | exact Or.inl (And.intro rfl rfl)
                | exact Or.inl (And.intro (pureL_box _ _) rfl)
                | exact le_ints rfl
                | exact le_ints (rep_ints _ _)
                | exact le_bools rfl
                | exact le_bools (rep_bools _)
                | exact Or.inl (And.intro (pureL_pair _ _ _ _ _ _) rfl)
                | refine le_ints ?_
                | refine Or.inr ?_
                | refine And.intro ?_ ?_
                | exact Nat.le_of_ble_eq_true rfl
                | exact Nat.zero_le _
                | exact int_eq (by assumption)
                | exact int_eq (by omega)
                | exact int_eq (Int.add_zero _).symm
                | exact List.length_append
                | exact int_eq (by rw [IntWalk.i64_in _ (by omega)] <;> omega))
      · have hws : ws = prL zs qs r m c := getD_ext (by rw [prL_length, hl]) fun j hj => by
          rw [prL_length] at hj
          rw [hall j hj, if_pos (by omega), prL_getD hj]
        have hM' : prM xs zs ps qs = told [(r : Int), (c : Int)] ws := by rw [hM, hws]; rfl
        conv => whnf
        repeat' (first
          | (refine plan_in (id := 17) [0, 1, 2, 3, 4, 5, 6, 7, 8, 9, 10, 11, 12, 13, 14, 15, 16, 17, 18, 19, 20, 21, 22, 23, 24, 25] (by kernel_rfl) (by kernel_rfl) ?_; conv => whnf)
          | (refine aIf_t ?_; conv => whnf)
          | (refine aIf_f ?_; conv => whnf)
          | (refine fun (_ : _ ≤ maxLen) => ?_; conv => whnf)
          | (refine get_nat0 (by omega) ?_; conv => whnf)
          | (refine get_int0 (by omega) ?_; conv => whnf)
          | (refine get_nat (by omega) ?_; conv => whnf)
          | (refine get_int (by omega) ?_; conv => whnf)
          | (refine aGet_in rfl ?_; conv => whnf)
          | (refine And.intro (And.intro rfl (And.intro (by kernel_rfl) (And.intro rfl (by kernel_rfl)))) (And.intro (And.intro (by omega) (And.intro (bytes_le (b := 8) rfl (by omega)) (by omega))) ?_); conv => whnf)
          | (refine And.intro (by omega) ?_; conv => whnf)
          | (refine load_same ?_; conv => whnf)
          | (refine And.intro (by rw [List.length_map]; omega) ?_; conv => whnf)
          | (refine And.intro rfl (And.intro (List.cons_ne_nil _ _) ?_); conv => whnf)
          | (refine And.intro (Nat.le_of_ble_eq_true rfl) ?_; conv => whnf)
          | (refine orNone_call _ _ rfl rfl (by decide) (by first | rfl | omega) (by first | rfl | omega) (fun _ => ?_) (fun _ => ?_) <;> conv => whnf)
          | (refine orNone_call [_, _] _ rfl rfl (by decide) (by first | rfl | omega) (by first | rfl | omega) (fun _ => ?_) (fun _ => ?_) <;> conv => whnf)
          | (refine callG_t ?_; conv => whnf)
          | (refine iTensorOk_call ?_; conv => whnf)
          | (refine And.intro (And.intro rfl (And.intro (by kernel_rfl) (And.intro rfl (by kernel_rfl)))) (And.intro (And.intro (by omega) (And.intro (bytes_le (b := 24) rfl (by omega)) (by omega))) ?_); conv => whnf)
          | (refine And.intro (And.intro rfl (And.intro (by kernel_rfl) (And.intro rfl (by kernel_rfl)))) (And.intro (And.intro (by omega) (And.intro (bytes_le (b := 48) rfl (by omega)) (by omega))) ?_); conv => whnf)
          | (refine takeN_in ?_; conv => whnf)
          | (refine And.intro (pureL_ints _ _) ?_; conv => whnf)
          | (refine And.intro (pureL_take _ _ _) ?_; conv => whnf)
          | (refine And.intro (pureL_cut _ _ _ _) ?_; conv => whnf)
          | (refine cut_ints ?_; conv => whnf)
          | (refine cut_marks ?_; conv => whnf)
          | (refine cut_all rfl (scalL_ints _ _) ?_; conv => whnf)
          | (refine cut_all (by simp only [List.length_map]; omega) (scalL_ints _ _) ?_; conv => whnf)
          | (refine append_int rfl rfl (by first | rfl | (simp only [List.length_take, turned_length]; omega)) (by omega) (Nat.le_of_ble_eq_true rfl) ?_; conv => whnf)
          | (refine And.intro rfl (And.intro rfl (And.intro (by first | omega | (rw [List.length_map]; omega)) ?_)); conv => whnf)
          | (refine set_nat ?_ (by omega); conv => whnf)
          | (refine set_int ?_ (by omega); conv => whnf)
          | (refine set_bool ?_ (by omega); conv => whnf)
          | (refine set_force ?_; conv => whnf)
          | (refine get_bool0 (by omega) ?_; conv => whnf)
          | (refine And.intro (And.intro rfl (And.intro (by kernel_rfl) (And.intro rfl (by kernel_rfl)))) (And.intro (And.intro (by omega) (And.intro (bytes_le (b := 1) rfl (by omega)) (by omega))) ?_); conv => whnf)
          | (refine And.intro (And.intro (by kernel_rfl) (And.intro rfl (Nat.le_of_ble_eq_true rfl))) ?_; conv => whnf)
          | (refine And.intro (And.intro (by kernel_rfl) (by kernel_rfl)) ?_; conv => whnf)
          | (refine And.intro (by kernel_rfl) ?_; conv => whnf)
          | (refine aIf_tt (by assumption) ?_; conv => whnf)
          | (refine aIf_ff (by assumption) ?_; conv => whnf)
          | refine aIf_eqt ?_
          | refine aIf_eqf ?_
          | refine aIf_not ?_
          | (refine aIf_bself ?_; conv => whnf)
          | (refine aIf_beself ?_; conv => whnf)
          | (refine aIf_iself ?_; conv => whnf)
          | (refine aIf_decself ?_; conv => whnf)
          | (refine aIf_dec (fun _ => ?_) (fun _ => ?_) <;> conv => whnf)
          | (refine aIf_beq (fun _ => ?_) (fun _ => ?_) <;> conv => whnf)
          | (refine aIf_bne (fun _ => ?_) (fun _ => ?_) <;> conv => whnf)
          | (refine aIf_bbne (fun _ => ?_) (fun _ => ?_) <;> conv => whnf)
          | (refine aIf_bbeq (fun _ => ?_) (fun _ => ?_) <;> conv => whnf)
          | (refine aIf_in (fun _ => ?_) (fun _ => ?_) <;> conv => whnf))
        all_goals (first | (exfalso; omega) | skip)
        · rename_i hT
          refine retTB (hM := hM'.trans (told_t hT)) ?_ ?_ ?_ ?_ ?_
          all_goals (first | exact rfl | decide | (simp; done))
        · rename_i hT
          refine retTB (hM := hM'.trans (told_f hT)) ?_ ?_ ?_ ?_ ?_
          all_goals (first | exact rfl | decide | (simp; done))
  · rcases tensor_or xs zs with ⟨ht, hx, hz⟩ | ht
    · rcases tensor_or ps qs with ⟨hu, hy, hw⟩ | hu
      · have hQ : ¬ (xs.length = 2 ∧ ps.length = 2 ∧ ps.getD (Int.toNat 0) 0 = xs.getD (Int.toNat 1) 0) := fun h => hP ⟨ht, hu, h.1, h.2.1, h.2.2.symm⟩
        conv => whnf
        repeat' (first
          | (refine plan_in (id := 17) [0, 1, 2, 3, 4, 5, 6, 7, 8, 9, 10, 11, 12, 13, 14, 15, 16, 17, 18, 19, 20, 21, 22, 23, 24, 25] (by kernel_rfl) (by kernel_rfl) ?_; conv => whnf)
          | (refine aIf_t ?_; conv => whnf)
          | (refine aIf_f ?_; conv => whnf)
          | (refine fun (_ : _ ≤ maxLen) => ?_; conv => whnf)
          | (refine get_nat0 (by omega) ?_; conv => whnf)
          | (refine get_int0 (by omega) ?_; conv => whnf)
          | (refine get_nat (by omega) ?_; conv => whnf)
          | (refine get_int (by omega) ?_; conv => whnf)
          | (refine aGet_in rfl ?_; conv => whnf)
          | (refine And.intro (And.intro rfl (And.intro (by kernel_rfl) (And.intro rfl (by kernel_rfl)))) (And.intro (And.intro (by omega) (And.intro (bytes_le (b := 8) rfl (by omega)) (by omega))) ?_); conv => whnf)
          | (refine And.intro (by omega) ?_; conv => whnf)
          | (refine load_same ?_; conv => whnf)
          | (refine And.intro (by rw [List.length_map]; omega) ?_; conv => whnf)
          | (refine And.intro rfl (And.intro (List.cons_ne_nil _ _) ?_); conv => whnf)
          | (refine And.intro (Nat.le_of_ble_eq_true rfl) ?_; conv => whnf)
          | (refine orNone_call _ _ rfl rfl (by decide) (by first | rfl | omega) (by first | rfl | omega) (fun _ => ?_) (fun _ => ?_) <;> conv => whnf)
          | (refine orNone_call [_, _] _ rfl rfl (by decide) (by first | rfl | omega) (by first | rfl | omega) (fun _ => ?_) (fun _ => ?_) <;> conv => whnf)
          | (refine callG_t ?_; conv => whnf)
          | (refine iTensorOk_call ?_; conv => whnf)
          | (refine And.intro (And.intro rfl (And.intro (by kernel_rfl) (And.intro rfl (by kernel_rfl)))) (And.intro (And.intro (by omega) (And.intro (bytes_le (b := 24) rfl (by omega)) (by omega))) ?_); conv => whnf)
          | (refine And.intro (And.intro rfl (And.intro (by kernel_rfl) (And.intro rfl (by kernel_rfl)))) (And.intro (And.intro (by omega) (And.intro (bytes_le (b := 48) rfl (by omega)) (by omega))) ?_); conv => whnf)
          | (refine takeN_in ?_; conv => whnf)
          | (refine And.intro (pureL_ints _ _) ?_; conv => whnf)
          | (refine And.intro (pureL_take _ _ _) ?_; conv => whnf)
          | (refine And.intro (pureL_cut _ _ _ _) ?_; conv => whnf)
          | (refine cut_ints ?_; conv => whnf)
          | (refine cut_marks ?_; conv => whnf)
          | (refine cut_all rfl (scalL_ints _ _) ?_; conv => whnf)
          | (refine cut_all (by simp only [List.length_map]; omega) (scalL_ints _ _) ?_; conv => whnf)
          | (refine append_int rfl rfl (by first | rfl | (simp only [List.length_take, turned_length]; omega)) (by omega) (Nat.le_of_ble_eq_true rfl) ?_; conv => whnf)
          | (refine And.intro rfl (And.intro rfl (And.intro (by first | omega | (rw [List.length_map]; omega)) ?_)); conv => whnf)
          | (refine set_nat ?_ (by omega); conv => whnf)
          | (refine set_int ?_ (by omega); conv => whnf)
          | (refine set_bool ?_ (by omega); conv => whnf)
          | (refine set_force ?_; conv => whnf)
          | (refine get_bool0 (by omega) ?_; conv => whnf)
          | (refine And.intro (And.intro rfl (And.intro (by kernel_rfl) (And.intro rfl (by kernel_rfl)))) (And.intro (And.intro (by omega) (And.intro (bytes_le (b := 1) rfl (by omega)) (by omega))) ?_); conv => whnf)
          | (refine And.intro (And.intro (by kernel_rfl) (And.intro rfl (Nat.le_of_ble_eq_true rfl))) ?_; conv => whnf)
          | (refine And.intro (And.intro (by kernel_rfl) (by kernel_rfl)) ?_; conv => whnf)
          | (refine And.intro (by kernel_rfl) ?_; conv => whnf)
          | (refine aIf_tt (by assumption) ?_; conv => whnf)
          | (refine aIf_ff (by assumption) ?_; conv => whnf)
          | refine aIf_eqt ?_
          | refine aIf_eqf ?_
          | refine aIf_not ?_
          | (refine aIf_bself ?_; conv => whnf)
          | (refine aIf_beself ?_; conv => whnf)
          | (refine aIf_iself ?_; conv => whnf)
          | (refine aIf_decself ?_; conv => whnf)
          | (refine aIf_dec (fun _ => ?_) (fun _ => ?_) <;> conv => whnf)
          | (refine aIf_beq (fun _ => ?_) (fun _ => ?_) <;> conv => whnf)
          | (refine aIf_bne (fun _ => ?_) (fun _ => ?_) <;> conv => whnf)
          | (refine aIf_bbne (fun _ => ?_) (fun _ => ?_) <;> conv => whnf)
          | (refine aIf_bbeq (fun _ => ?_) (fun _ => ?_) <;> conv => whnf)
          | (refine aIf_in (fun _ => ?_) (fun _ => ?_) <;> conv => whnf))
        all_goals (first | (exfalso; omega) | skip)
        all_goals (refine retTB (hM := prM_f hP) ?_ ?_ ?_ ?_ ?_ <;> first | exact rfl | decide | (simp; done))
      · conv => whnf
        repeat' (first
          | (refine plan_in (id := 17) [0, 1, 2, 3, 4, 5, 6, 7, 8, 9, 10, 11, 12, 13, 14, 15, 16, 17, 18, 19, 20, 21, 22, 23, 24, 25] (by kernel_rfl) (by kernel_rfl) ?_; conv => whnf)
          | (refine aIf_t ?_; conv => whnf)
          | (refine aIf_f ?_; conv => whnf)
          | (refine fun (_ : _ ≤ maxLen) => ?_; conv => whnf)
          | (refine get_nat0 (by omega) ?_; conv => whnf)
          | (refine get_int0 (by omega) ?_; conv => whnf)
          | (refine get_nat (by omega) ?_; conv => whnf)
          | (refine get_int (by omega) ?_; conv => whnf)
          | (refine aGet_in rfl ?_; conv => whnf)
          | (refine And.intro (And.intro rfl (And.intro (by kernel_rfl) (And.intro rfl (by kernel_rfl)))) (And.intro (And.intro (by omega) (And.intro (bytes_le (b := 8) rfl (by omega)) (by omega))) ?_); conv => whnf)
          | (refine And.intro (by omega) ?_; conv => whnf)
          | (refine load_same ?_; conv => whnf)
          | (refine And.intro (by rw [List.length_map]; omega) ?_; conv => whnf)
          | (refine And.intro rfl (And.intro (List.cons_ne_nil _ _) ?_); conv => whnf)
          | (refine And.intro (Nat.le_of_ble_eq_true rfl) ?_; conv => whnf)
          | (refine orNone_call _ _ rfl rfl (by decide) (by first | rfl | omega) (by first | rfl | omega) (fun _ => ?_) (fun _ => ?_) <;> conv => whnf)
          | (refine orNone_call [_, _] _ rfl rfl (by decide) (by first | rfl | omega) (by first | rfl | omega) (fun _ => ?_) (fun _ => ?_) <;> conv => whnf)
          | (refine callG_t ?_; conv => whnf)
          | (refine iTensorOk_call ?_; conv => whnf)
          | (refine And.intro (And.intro rfl (And.intro (by kernel_rfl) (And.intro rfl (by kernel_rfl)))) (And.intro (And.intro (by omega) (And.intro (bytes_le (b := 24) rfl (by omega)) (by omega))) ?_); conv => whnf)
          | (refine And.intro (And.intro rfl (And.intro (by kernel_rfl) (And.intro rfl (by kernel_rfl)))) (And.intro (And.intro (by omega) (And.intro (bytes_le (b := 48) rfl (by omega)) (by omega))) ?_); conv => whnf)
          | (refine takeN_in ?_; conv => whnf)
          | (refine And.intro (pureL_ints _ _) ?_; conv => whnf)
          | (refine And.intro (pureL_take _ _ _) ?_; conv => whnf)
          | (refine And.intro (pureL_cut _ _ _ _) ?_; conv => whnf)
          | (refine cut_ints ?_; conv => whnf)
          | (refine cut_marks ?_; conv => whnf)
          | (refine cut_all rfl (scalL_ints _ _) ?_; conv => whnf)
          | (refine cut_all (by simp only [List.length_map]; omega) (scalL_ints _ _) ?_; conv => whnf)
          | (refine append_int rfl rfl (by first | rfl | (simp only [List.length_take, turned_length]; omega)) (by omega) (Nat.le_of_ble_eq_true rfl) ?_; conv => whnf)
          | (refine And.intro rfl (And.intro rfl (And.intro (by first | omega | (rw [List.length_map]; omega)) ?_)); conv => whnf)
          | (refine set_nat ?_ (by omega); conv => whnf)
          | (refine set_int ?_ (by omega); conv => whnf)
          | (refine set_bool ?_ (by omega); conv => whnf)
          | (refine set_force ?_; conv => whnf)
          | (refine get_bool0 (by omega) ?_; conv => whnf)
          | (refine And.intro (And.intro rfl (And.intro (by kernel_rfl) (And.intro rfl (by kernel_rfl)))) (And.intro (And.intro (by omega) (And.intro (bytes_le (b := 1) rfl (by omega)) (by omega))) ?_); conv => whnf)
          | (refine And.intro (And.intro (by kernel_rfl) (And.intro rfl (Nat.le_of_ble_eq_true rfl))) ?_; conv => whnf)
          | (refine And.intro (And.intro (by kernel_rfl) (by kernel_rfl)) ?_; conv => whnf)
          | (refine And.intro (by kernel_rfl) ?_; conv => whnf)
          | (refine aIf_tt (by assumption) ?_; conv => whnf)
          | (refine aIf_ff (by assumption) ?_; conv => whnf)
          | refine aIf_eqt ?_
          | refine aIf_eqf ?_
          | refine aIf_not ?_
          | (refine aIf_bself ?_; conv => whnf)
          | (refine aIf_beself ?_; conv => whnf)
          | (refine aIf_iself ?_; conv => whnf)
          | (refine aIf_decself ?_; conv => whnf)
          | (refine aIf_dec (fun _ => ?_) (fun _ => ?_) <;> conv => whnf)
          | (refine aIf_beq (fun _ => ?_) (fun _ => ?_) <;> conv => whnf)
          | (refine aIf_bne (fun _ => ?_) (fun _ => ?_) <;> conv => whnf)
          | (refine aIf_bbne (fun _ => ?_) (fun _ => ?_) <;> conv => whnf)
          | (refine aIf_bbeq (fun _ => ?_) (fun _ => ?_) <;> conv => whnf)
          | (refine aIf_in (fun _ => ?_) (fun _ => ?_) <;> conv => whnf))
        all_goals (first | (exfalso; omega) | skip)
        all_goals (refine retTB (hM := prM_f hP) ?_ ?_ ?_ ?_ ?_ <;> first | exact rfl | decide | (simp; done))
    · conv => whnf
      repeat' (first
        | (refine plan_in (id := 17) [0, 1, 2, 3, 4, 5, 6, 7, 8, 9, 10, 11, 12, 13, 14, 15, 16, 17, 18, 19, 20, 21, 22, 23, 24, 25] (by kernel_rfl) (by kernel_rfl) ?_; conv => whnf)
        | (refine aIf_t ?_; conv => whnf)
        | (refine aIf_f ?_; conv => whnf)
        | (refine fun (_ : _ ≤ maxLen) => ?_; conv => whnf)
        | (refine get_nat0 (by omega) ?_; conv => whnf)
        | (refine get_int0 (by omega) ?_; conv => whnf)
        | (refine get_nat (by omega) ?_; conv => whnf)
        | (refine get_int (by omega) ?_; conv => whnf)
        | (refine aGet_in rfl ?_; conv => whnf)
        | (refine And.intro (And.intro rfl (And.intro (by kernel_rfl) (And.intro rfl (by kernel_rfl)))) (And.intro (And.intro (by omega) (And.intro (bytes_le (b := 8) rfl (by omega)) (by omega))) ?_); conv => whnf)
        | (refine And.intro (by omega) ?_; conv => whnf)
        | (refine load_same ?_; conv => whnf)
        | (refine And.intro (by rw [List.length_map]; omega) ?_; conv => whnf)
        | (refine And.intro rfl (And.intro (List.cons_ne_nil _ _) ?_); conv => whnf)
        | (refine And.intro (Nat.le_of_ble_eq_true rfl) ?_; conv => whnf)
        | (refine orNone_call _ _ rfl rfl (by decide) (by first | rfl | omega) (by first | rfl | omega) (fun _ => ?_) (fun _ => ?_) <;> conv => whnf)
        | (refine orNone_call [_, _] _ rfl rfl (by decide) (by first | rfl | omega) (by first | rfl | omega) (fun _ => ?_) (fun _ => ?_) <;> conv => whnf)
        | (refine callG_t ?_; conv => whnf)
        | (refine iTensorOk_call ?_; conv => whnf)
        | (refine And.intro (And.intro rfl (And.intro (by kernel_rfl) (And.intro rfl (by kernel_rfl)))) (And.intro (And.intro (by omega) (And.intro (bytes_le (b := 24) rfl (by omega)) (by omega))) ?_); conv => whnf)
        | (refine And.intro (And.intro rfl (And.intro (by kernel_rfl) (And.intro rfl (by kernel_rfl)))) (And.intro (And.intro (by omega) (And.intro (bytes_le (b := 48) rfl (by omega)) (by omega))) ?_); conv => whnf)
        | (refine takeN_in ?_; conv => whnf)
        | (refine And.intro (pureL_ints _ _) ?_; conv => whnf)
        | (refine And.intro (pureL_take _ _ _) ?_; conv => whnf)
        | (refine And.intro (pureL_cut _ _ _ _) ?_; conv => whnf)
        | (refine cut_ints ?_; conv => whnf)
        | (refine cut_marks ?_; conv => whnf)
        | (refine cut_all rfl (scalL_ints _ _) ?_; conv => whnf)
        | (refine cut_all (by simp only [List.length_map]; omega) (scalL_ints _ _) ?_; conv => whnf)
        | (refine append_int rfl rfl (by first | rfl | (simp only [List.length_take, turned_length]; omega)) (by omega) (Nat.le_of_ble_eq_true rfl) ?_; conv => whnf)
        | (refine And.intro rfl (And.intro rfl (And.intro (by first | omega | (rw [List.length_map]; omega)) ?_)); conv => whnf)
        | (refine set_nat ?_ (by omega); conv => whnf)
        | (refine set_int ?_ (by omega); conv => whnf)
        | (refine set_bool ?_ (by omega); conv => whnf)
        | (refine set_force ?_; conv => whnf)
        | (refine get_bool0 (by omega) ?_; conv => whnf)
        | (refine And.intro (And.intro rfl (And.intro (by kernel_rfl) (And.intro rfl (by kernel_rfl)))) (And.intro (And.intro (by omega) (And.intro (bytes_le (b := 1) rfl (by omega)) (by omega))) ?_); conv => whnf)
        | (refine And.intro (And.intro (by kernel_rfl) (And.intro rfl (Nat.le_of_ble_eq_true rfl))) ?_; conv => whnf)
        | (refine And.intro (And.intro (by kernel_rfl) (by kernel_rfl)) ?_; conv => whnf)
        | (refine And.intro (by kernel_rfl) ?_; conv => whnf)
        | (refine aIf_tt (by assumption) ?_; conv => whnf)
        | (refine aIf_ff (by assumption) ?_; conv => whnf)
        | refine aIf_eqt ?_
        | refine aIf_eqf ?_
        | refine aIf_not ?_
        | (refine aIf_bself ?_; conv => whnf)
        | (refine aIf_beself ?_; conv => whnf)
        | (refine aIf_iself ?_; conv => whnf)
        | (refine aIf_decself ?_; conv => whnf)
        | (refine aIf_dec (fun _ => ?_) (fun _ => ?_) <;> conv => whnf)
        | (refine aIf_beq (fun _ => ?_) (fun _ => ?_) <;> conv => whnf)
        | (refine aIf_bne (fun _ => ?_) (fun _ => ?_) <;> conv => whnf)
        | (refine aIf_bbne (fun _ => ?_) (fun _ => ?_) <;> conv => whnf)
        | (refine aIf_bbeq (fun _ => ?_) (fun _ => ?_) <;> conv => whnf)
        | (refine aIf_in (fun _ => ?_) (fun _ => ?_) <;> conv => whnf))
      all_goals (first | (exfalso; omega) | skip)
      all_goals (refine retTB (hM := prM_f hP) ?_ ?_ ?_ ?_ ?_ <;> first | exact rfl | decide | (simp; done))
end Go.Proofs.Ytegoncendpboiaa
