import Derived.Test.YtjmdhfjemaoebaaGreatM01x21
import Derived.Test.YtjmdhfjemaoebaaGreatM01x19
namespace Go.Proofs.YtjmdhfjemaoebaaGreat
set_option maxRecDepth 20000
open Go.RowKit Go.Am
attribute [local irreducible] aPlan aGet aIf aLoop aCall RetB NextB CallB CallG aCut aSet aAppend
def ltM (op : Int) (xs zs ps qs : List Int) : TM := if jOk xs ps = true then (jL xs ps, twoL op (sprd xs zs (jL xs ps)) (sprd ps qs (jL xs ps)), true) else noT
theorem ltM_t {op : Int} {xs zs ps qs : List Int} (h : jOk xs ps = true) : ltM op xs zs ps qs = (jL xs ps, twoL op (sprd xs zs (jL xs ps)) (sprd ps qs (jL xs ps)), true) := if_pos h
theorem ltM_f {op : Int} {xs zs ps qs : List Int} (h : jOk xs ps = false) : ltM op xs zs ps qs = noT := if_neg (by rw [h]; exact Bool.false_ne_true)
def LtP (xs zs ps qs : List Int) : Prop := shapeOk xs = true ∧ shapeOk ps = true ∧ (zs.length : Int) = cntTo xs xs.length ∧ (qs.length : Int) = cntTo ps ps.length
def sL2Two : CSpec := fnTB (ι := Int × Nat × List Int × Nat × List Int × Nat × List Int × Nat × List Int) 3 (fun | (op, c, xs, d, zs, e, ps, f, qs) => [.int .i64 op, .agg [.sl c xs.length (xs.map (.int .i64)), .sl d zs.length (zs.map (.int .i64))], .agg [.sl e ps.length (ps.map (.int .i64)), .sl f qs.length (qs.map (.int .i64))]]) (fun | (_, _, xs, _, zs, _, ps, _, qs) => LtP xs zs ps qs) (fun | (op, _, xs, _, zs, _, ps, _, qs) => ltM op xs zs ps qs)
set_option maxHeartbeats 4000000 in
set_option maxRecDepth 10000 in
theorem l2Two_sound : Sound Tryz.prog 97 sL2Two := by
  refine sound_of Tryz.func97 rfl (enters_of Tryz.func97 (by kernel_rfl) (by kernel_rfl)) ?_
  rintro ⟨op, c, xs, d, zs, e, ps, f, qs⟩ hpre
  obtain ⟨s1, s2, ht, hu⟩ : LtP xs zs ps qs := hpre
  have hmax : maxLen = 9223372036854775807 := rfl
  cases hj : jOk xs ps with
  | false =>
    conv => whnf
    repeat' (first
      | ((first | refine plan_in (id := 9) [0, 1, 2, 3, 4, 5, 6, 7, 8, 9, 10, 11, 12, 13, 14, 15, 16] (by kernel_rfl) (by kernel_rfl) ?_ | refine aGet_in rfl ?_ | refine And.intro rfl (And.intro (List.cons_ne_nil _ _) ?_) | refine And.intro (Nat.le_of_ble_eq_true rfl) ?_ | refine callG_t ?_ | refine append_same ?_ | refine takeN_in ?_ | refine And.intro (pureL_ints _ _) ?_ | refine l1Join_call (And.intro (by assumption) (by assumption)) ?_ | refine set_force ?_ | refine And.intro (by kernel_rfl) ?_ | refine aIf_ff (by assumption) ?_); conv => whnf) | refine aIf_not ?_)
    all_goals (first | (exfalso; omega) | skip)
    refine retTB (hM := ltM_f hj) ?_ ?_ ?_ ?_ ?_
    all_goals (first | exact rfl | decide | (simp; done))
  | true =>
    obtain ⟨r1, r2⟩ := jOk_r hj
    have q1 := jOk_jL hj
    have q2 := jL_jL hj
    have b1 := jL_ok hj
    have hc := cnt64 b1 (Nat.le_refl _)
    have nA : (sprd xs zs (jL xs ps)).length = (cntTo (jL xs ps) (jL xs ps).length).toNat := rdL_length _ _ _ _
    have nB : (sprd ps qs (jL xs ps)).length = (cntTo (jL xs ps) (jL xs ps).length).toNat := rdL_length _ _ _ _
    conv => whnf
    repeat' (first
      | ((first | refine plan_in (id := 9) [0, 1, 2, 3, 4, 5, 6, 7, 8, 9, 10, 11, 12, 13, 14, 15, 16] (by kernel_rfl) (by kernel_rfl) ?_ | refine aGet_in rfl ?_ | refine load_same ?_ | refine And.intro rfl (And.intro (List.cons_ne_nil _ _) ?_) | refine And.intro (Nat.le_of_ble_eq_true rfl) ?_ | refine callG_t ?_ | refine append_same ?_ | refine l2SpreadG_call (And.intro (by assumption) (And.intro (by assumption) (by assumption))) (by first | rfl | omega) ?_ | refine takeN_in ?_ | refine And.intro (pureL_ints _ _) ?_ | refine cut_ints ?_ | refine l1Join_call (And.intro (by assumption) (by assumption)) ?_ | refine set_force ?_ | refine And.intro (by kernel_rfl) ?_ | refine aIf_tt (by assumption) ?_); conv => whnf) | refine aIf_not ?_)
    all_goals (first | (exfalso; omega) | skip)
    refine loop_in (ι := Nat × List Int) (fun | (k, ws) => ⟨[.int .i64 op, .un, .un, .un, .un, .un, .ptr 4 5 0, .un, .un, .un, .ptr 10 10 0, .ptr 15 14 0, .int .i64 k, .un, .un, .un, .un, .un, .un, .un, .un, .un, .un, .un, .un, .un, .un, .un, .un, .un, .un, .un, .un, .un, .un, .un, .un, .un, .un, .un, .un, .un, .un, .un, .un, .un, .un, .un, .un, .un, .un, .un, .un, .un], [bt 1 [.sl c xs.length (xs.map (.int .i64)), .sl d zs.length (zs.map (.int .i64))], bt 2 [.sl e ps.length (ps.map (.int .i64)), .sl f qs.length (qs.map (.int .i64))], nl 3, nl 4, bt 5 [.ref 2 3 0 0, .ref 3 4 0 0], li 6 (jL xs ps), li 7 (jL xs ps), li 7 ws, nl 8, nl 9, bt 10 [.ref 6 7 0 (jL xs ps).length, .ref 7 7 0 ws.length], li 11 (jL xs ps), li 11 (sprd ps qs (jL xs ps)), nl 12, nl 13, bt 14 [.ref 11 11 0 (jL xs ps).length, .ref 12 11 0 (sprd ps qs (jL xs ps)).length]], 15, 0⟩)
      (fun x => x.1 ≤ (sprd xs zs (jL xs ps)).length ∧ x.2.length = (sprd xs zs (jL xs ps)).length ∧ ∀ j, j < (sprd xs zs (jL xs ps)).length → x.2.getD j 0 = if j < x.1 then two op ((sprd xs zs (jL xs ps)).getD j 0) ((sprd ps qs (jL xs ps)).getD j 0) else (sprd xs zs (jL xs ps)).getD j 0) (fun x => (sprd xs zs (jL xs ps)).length - x.1) (0, sprd xs zs (jL xs ps)) ⟨Nat.zero_le _, rfl, fun j _ => (if_neg (Nat.not_lt_zero j)).symm⟩ ?_ ?_
    · repeat' (first
        | exact trivial | exact rfl
        | exact Or.inl (And.intro rfl rfl) | exact le_ints rfl
        | exact Or.inl (And.intro (pureL_pair _ _ _ _ _ _) rfl) | refine Or.inr ?_
        | refine And.intro ?_ ?_ | exact Nat.le_of_ble_eq_true rfl)
    · rintro ⟨k, ws⟩ ⟨hk, hl, hall⟩
      have hk : k ≤ (sprd xs zs (jL xs ps)).length := hk
      have hl : ws.length = (sprd xs zs (jL xs ps)).length := hl
      have hall : ∀ j, j < (sprd xs zs (jL xs ps)).length → ws.getD j 0 = if j < k then two op ((sprd xs zs (jL xs ps)).getD j 0) ((sprd ps qs (jL xs ps)).getD j 0) else (sprd xs zs (jL xs ps)).getD j 0 := hall
      by_cases hlt : k < (sprd xs zs (jL xs ps)).length
      · have hwk : ws.getD k 0 = (sprd xs zs (jL xs ps)).getD k 0 := by rw [hall k hlt, if_neg (Nat.lt_irrefl k)]
        conv => whnf
        repeat' (first
          | ((first | refine plan_in (id := 9) [0, 1, 2, 3, 4, 5, 6, 7, 8, 9, 10, 11, 12, 13, 14, 15, 16] (by kernel_rfl) (by kernel_rfl) ?_ | refine fun (_ : _ ≤ maxLen) => ?_ | refine get_nat0 (by omega) ?_ | refine aGet_in rfl ?_ | refine And.intro (by omega) ?_ | refine load_same ?_ | refine append_same ?_ | refine takeN_in ?_ | refine l2Op_call ?_ | refine And.intro rfl (And.intro rfl (And.intro (by first | omega | (rw [List.length_map]; omega)) ?_)) | refine set_nat ?_ (by omega) | refine set_force ?_); conv => whnf) | (refine aIf_dec (fun _ => ?_) (fun _ => ?_) <;> conv => whnf))
        all_goals (first | (exfalso; omega) | skip)
        refine next_in (k + 1, ws.set k (two op (ws.getD k 0) ((sprd ps qs (jL xs ps)).getD k 0))) (show (sprd xs zs (jL xs ps)).length - (k + 1) < (sprd xs zs (jL xs ps)).length - k by omega) ⟨(show k + 1 ≤ (sprd xs zs (jL xs ps)).length by omega), (show (ws.set k _).length = _ by simpa using hl), fun j hj => ?_⟩ ?_
        · show (ws.set k (two op (ws.getD k 0) ((sprd ps qs (jL xs ps)).getD k 0))).getD j 0 = if j < k + 1 then _ else _
          rw [getD_set (by omega)]
          split
          · rename_i e'; subst e'; rw [if_pos (by omega), hwk]
          · rw [hall j hj]
            by_cases h : j < k
            · rw [if_pos h, if_pos (by omega)]
            · rw [if_neg h, if_neg (by omega)]
        · repeat' (first
            | exact trivial | exact rfl
            | exact Or.inl (And.intro rfl rfl) | exact le_ints rfl
            | exact Or.inl (And.intro (pureL_pair _ _ _ _ _ _) rfl) | refine Or.inr ?_
            | refine And.intro ?_ ?_ | exact Nat.le_of_ble_eq_true rfl
            | exact int_eq (by rw [IntWalk.i64_in _ (by omega)] <;> omega))
          all_goals exact List.length_set
      · have hws : ws = twoL op (sprd xs zs (jL xs ps)) (sprd ps qs (jL xs ps)) := getD_ext (by rw [twoL_length, hl]) fun j hj => by
          rw [twoL_length] at hj
          rw [hall j hj, if_pos (by omega), twoL_getD hj]
        subst hws
        conv => whnf
        repeat' (first
          | ((first | refine plan_in (id := 9) [0, 1, 2, 3, 4, 5, 6, 7, 8, 9, 10, 11, 12, 13, 14, 15, 16] (by kernel_rfl) (by kernel_rfl) ?_ | refine fun (_ : _ ≤ maxLen) => ?_ | refine get_nat0 (by omega) ?_ | refine aGet_in rfl ?_ | refine And.intro (by omega) ?_ | refine load_same ?_ | refine And.intro (Nat.le_of_ble_eq_true rfl) ?_ | refine append_same ?_ | refine takeN_in ?_ | refine l2Op_call ?_ | refine set_nat ?_ (by omega) | refine set_force ?_ | refine And.intro (by kernel_rfl) ?_); conv => whnf) | (refine aIf_dec (fun _ => ?_) (fun _ => ?_) <;> conv => whnf))
        all_goals (first | (exfalso; omega) | skip)
        refine retTB (hM := ltM_t hj) ?_ ?_ ?_ ?_ ?_
        all_goals (first | exact rfl | decide | (simp; done))
theorem l2Two_call {op : Int} {c d e f : Nat} {xs zs ps qs : List Int} {env : List AV} {rows : List Row} {ctr low : Nat} {k : AV → St → Prop} (hpre : tensorOk xs zs = true ∧ tensorOk ps qs = true)
    (hk : k (.tup [.agg [.ref rows.length ctr 0 (ltM op xs zs ps qs).1.length, .ref (rows.length + 1) ctr 0 (ltM op xs zs ps qs).2.1.length], .bool (ltM op xs zs ps qs).2.2]) ⟨env, rows ++ [⟨ctr, 3, 1, (ltM op xs zs ps qs).1.map (.int .i64)⟩, ⟨ctr, 3, 1, (ltM op xs zs ps qs).2.1.map (.int .i64)⟩], ctr + 1, low⟩) :
    CallB Tryz.prog 97 ⟨env, rows, ctr, low⟩ [.int .i64 op, .agg [.sl c xs.length (xs.map (.int .i64)), .sl d zs.length (zs.map (.int .i64))], .agg [.sl e ps.length (ps.map (.int .i64)), .sl f qs.length (qs.map (.int .i64))]] k := callTB_in l2Two_sound (op, c, xs, d, zs, e, ps, f, qs) ⟨((tensorOk_iff _ _).1 hpre.1).1, ((tensorOk_iff _ _).1 hpre.2).1, ((tensorOk_iff _ _).1 hpre.1).2.1, ((tensorOk_iff _ _).1 hpre.2).2.1⟩ hk
theorem l2TwoG_call {op : Int} {c d e f : Nat} {xs zs ps qs : List Int} {env : List AV} {rows : List Row} {ctr low : Nat} {k : AV → St → Prop} (hpre : LtP xs zs ps qs)
    (hk : k (.tup [.agg [.ref rows.length ctr 0 (ltM op xs zs ps qs).1.length, .ref (rows.length + 1) ctr 0 (ltM op xs zs ps qs).2.1.length], .bool (ltM op xs zs ps qs).2.2]) ⟨env, rows ++ [⟨ctr, 3, 1, (ltM op xs zs ps qs).1.map (.int .i64)⟩, ⟨ctr, 3, 1, (ltM op xs zs ps qs).2.1.map (.int .i64)⟩], ctr + 1, low⟩) :
    CallB Tryz.prog 97 ⟨env, rows, ctr, low⟩ [.int .i64 op, .agg [.sl c xs.length (xs.map (.int .i64)), .sl d zs.length (zs.map (.int .i64))], .agg [.sl e ps.length (ps.map (.int .i64)), .sl f qs.length (qs.map (.int .i64))]] k := callTB_in l2Two_sound (op, c, xs, d, zs, e, ps, f, qs) hpre hk
theorem iTwoOf_call {op : Int} {c d e f : Nat} {xs zs ps qs : List Int} {env : List AV} {rows : List Row} {ctr low : Nat} {k : AV → St → Prop} (hpre : True)
    (hk : k (.tup [.agg [.ref rows.length ctr 0 (twoM op xs zs ps qs).1.length, .ref (rows.length + 1) ctr 0 (twoM op xs zs ps qs).2.1.length], .bool (twoM op xs zs ps qs).2.2]) ⟨env, rows ++ [⟨ctr, 3, 1, (twoM op xs zs ps qs).1.map (.int .i64)⟩, ⟨ctr, 3, 1, (twoM op xs zs ps qs).2.1.map (.int .i64)⟩], ctr + 1, low⟩) :
    CallB Tryz.prog 171 ⟨env, rows, ctr, low⟩ [.int .i64 op, .agg [.sl c xs.length (xs.map (.int .i64)), .sl d zs.length (zs.map (.int .i64))], .agg [.sl e ps.length (ps.map (.int .i64)), .sl f qs.length (qs.map (.int .i64))]] k := callTB_in iTwoOf_sound (op, c, xs, d, zs, e, ps, f, qs) hpre hk
end Go.Proofs.YtjmdhfjemaoebaaGreat
namespace Go.Proofs.YtjmdhfjemaoebaaGreat
set_option maxRecDepth 20000
open Go.RowKit Go.Am
attribute [local irreducible] aPlan aGet aIf aLoop aCall RetB NextB CallB CallG aCut aSet aAppend
def dotT (zs qs : List Int) (m c i j : Nat) : Nat → Int
  | 0 => 0
  | k + 1 => IntKind.i64.wrap (dotT zs qs m c i j k + IntKind.i64.wrap (zs.getD (i * m + k) 0 * qs.getD (k * c + j) 0))
def prL (zs qs : List Int) (r m c : Nat) : List Int := (List.range (r * c)).map fun i => dotT zs qs m c (i / c) (i % c) m
theorem prL_length (zs qs : List Int) (r m c : Nat) : (prL zs qs r m c).length = r * c := by simp [prL]
theorem prL_getD {zs qs : List Int} {r m c j : Nat} (h : j < r * c) : (prL zs qs r m c).getD j 0 = dotT zs qs m c (j / c) (j % c) m := range_getD h
def prP (xs zs ps qs : List Int) : Prop := tensorOk xs zs = true ∧ tensorOk ps qs = true ∧ xs.length = 2 ∧ ps.length = 2 ∧ xs.getD 1 0 = ps.getD 0 0
instance (xs zs ps qs : List Int) : Decidable (prP xs zs ps qs) := by unfold prP; infer_instance
def prM (xs zs ps qs : List Int) : TM := if prP xs zs ps qs then told [xs.getD 0 0, ps.getD 1 0] (prL zs qs (xs.getD 0 0).toNat (xs.getD 1 0).toNat (ps.getD 1 0).toNat) else noT
theorem prM_t {xs zs ps qs : List Int} (h : prP xs zs ps qs) : prM xs zs ps qs = told [xs.getD 0 0, ps.getD 1 0] (prL zs qs (xs.getD 0 0).toNat (xs.getD 1 0).toNat (ps.getD 1 0).toNat) := if_pos h
theorem prM_f {xs zs ps qs : List Int} (h : ¬ prP xs zs ps qs) : prM xs zs ps qs = noT := if_neg h
theorem pix {r m i k : Nat} (hi : i < r) (hk : k < m) : i * m + k < r * m := by
  have h1 : (i + 1) * m ≤ r * m := Nat.mul_le_mul_right m hi
  rw [Nat.add_mul, Nat.one_mul] at h1
  omega
structure PrF (xs zs ps qs : List Int) (r m c : Nat) : Prop where
  e0 : xs.getD 0 0 = r
  e1 : xs.getD 1 0 = m
  e2 : ps.getD 0 0 = m
  e3 : ps.getD 1 0 = c
  r4 : 1 ≤ r ∧ r ≤ 4
  m4 : 1 ≤ m ∧ m ≤ 4
  c4 : 1 ≤ c ∧ c ≤ 4
  nz : zs.length = r * m
  nq : qs.length = m * c
theorem cnt2 {xs : List Int} (h : shapeOk xs = true) (h2 : xs.length = 2) : cntTo xs xs.length = xs.getD 0 0 * xs.getD 1 0 := by
  rw [h2, cnt_next h (k := 1) (by omega), cnt_next h (k := 0) (by omega)]
  have e : cntTo xs 0 = 1 := rfl
  rw [e, Int.one_mul]
theorem prF {xs zs ps qs : List Int} (h : prP xs zs ps qs) : ∃ r m c, PrF xs zs ps qs r m c := by
  obtain ⟨h1, h2, h3, h4, h5⟩ := h
  obtain ⟨s1, t1, _⟩ := (tensorOk_iff _ _).1 h1
  obtain ⟨s2, t2, _⟩ := (tensorOk_iff _ _).1 h2
  have z0 := size_in s1 (j := 0) (by omega)
  have z1 := size_in s1 (j := 1) (by omega)
  have z3 := size_in s2 (j := 1) (by omega)
  rw [cnt2 s1 h3] at t1
  rw [cnt2 s2 h4, ← h5] at t2
  obtain ⟨r, hr⟩ : ∃ r : Nat, xs.getD 0 0 = r := ⟨(xs.getD 0 0).toNat, by omega⟩
  obtain ⟨m, hm⟩ : ∃ m : Nat, xs.getD 1 0 = m := ⟨(xs.getD 1 0).toNat, by omega⟩
  obtain ⟨c, hc⟩ : ∃ c : Nat, ps.getD 1 0 = c := ⟨(ps.getD 1 0).toNat, by omega⟩
  rw [hr, hm, ← Int.natCast_mul] at t1
  rw [hm, hc, ← Int.natCast_mul] at t2
  exact ⟨r, m, c, hr, hm, by rw [← h5, hm], hc, by omega, by omega, by omega, by omega, by omega⟩
def psP (xs zs ps qs : List Int) : Prop := xs.length = 2 ∧ ps.length = 2 ∧ ∃ r m c, PrF xs zs ps qs r m c
def sSums : CSpec := fnL (ι := Nat × List Int × Nat × List Int × Nat × List Int × Nat × List Int) 3 (fun | (cc, xs, d, zs, e, ps, f, qs) => [.agg [.sl cc xs.length (xs.map (.int .i64)), .sl d zs.length (zs.map (.int .i64))], .agg [.sl e ps.length (ps.map (.int .i64)), .sl f qs.length (qs.map (.int .i64))]]) (fun | (_, xs, _, zs, _, ps, _, qs) => psP xs zs ps qs) (fun | (_, xs, _, zs, _, ps, _, qs) => prL zs qs (xs.getD 0 0).toNat (xs.getD 1 0).toNat (ps.getD 1 0).toNat)
set_option maxHeartbeats 4000000 in
set_option maxRecDepth 10000 in
theorem productSums_sound : Sound Tryz.prog 150 sSums := by
  refine sound_of Tryz.func150 rfl (enters_of Tryz.func150 (by kernel_rfl) (by kernel_rfl)) ?_
  rintro ⟨cc, xs, d, zs, e, ps, f, qs⟩ hpre
  obtain ⟨h3, h4, r, m, c, F⟩ : psP xs zs ps qs := hpre
  have hmax : maxLen = 9223372036854775807 := rfl
  obtain ⟨e0, e1, e2, e3, r4, m4, c4, nz, nq⟩ := F
  have hrc : r * c ≤ 16 := Nat.mul_le_mul r4.2 c4.2
  have g0 : xs.getD (Int.toNat 0) 0 = r := e0
  have g1 : xs.getD (Int.toNat 1) 0 = m := e1
  have g3 : ps.getD (Int.toNat 1) 0 = c := e3
  have hw : IntKind.i64.wrap (xs.getD (Int.toNat 0) 0 * ps.getD (Int.toNat 1) 0) = ((r * c : Nat) : Int) := by rw [g0, g3, ← Int.natCast_mul]; exact IntWalk.i64_in _ (by omega)
  have hwn : (IntKind.i64.wrap (xs.getD (Int.toNat 0) 0 * ps.getD (Int.toNat 1) 0)).toNat = r * c := by rw [hw]; rfl
  conv => whnf
  repeat' (first
    | ((first | refine plan_in (id := 13) [0, 1, 2, 3, 4, 5, 6, 7, 8, 9, 10, 11, 12, 13, 14, 15, 16, 17, 18, 19, 20, 21, 22, 23, 24, 25] (by kernel_rfl) (by kernel_rfl) ?_ | refine fun (_ : _ ≤ maxLen) => ?_ | refine get_int (by omega) ?_ | refine aGet_in rfl ?_ | refine And.intro (And.intro (Int.le_refl _) (And.intro (by kernel_rfl) (And.intro rfl (by kernel_rfl)))) (And.intro (And.intro (by omega) (And.intro (bytes_le (b := 8) rfl (by omega)) (by omega))) ?_) | refine And.intro (by omega) ?_ | refine And.intro rfl (And.intro (List.cons_ne_nil _ _) ?_) | refine append_same ?_); conv => whnf))
  all_goals (first | (exfalso; omega) | skip)
  rw [hwn]
  refine loop_u (ι := Nat × List Int) [false, false, true, true, false, false, true, true, true, false, false, false, false, false, false, false, false, false, false, false, false, false, false, false, false, false, false, false, false, false, true, true, false, false, false, false, false, false, false, false, false, false, false, false, false, false, false, false, false, false, false, false, false, false, false, false, false, false, false, false, false, false, false, false, false, false, false, false, false, false, false, false] (fun | (k, _) => [(6, .int .i64 m), (7, .int .i64 c), (30, .int .i64 ((r * c : Nat) : Int)), (31, .int .i64 k)]) (fun | (_, ws) => [(3, ws.map (.int .i64))]) (fun x => x.1 ≤ r * c ∧ x.2.length = r * c ∧ ∀ j, j < r * c → x.2.getD j 0 = if j < x.1 then dotT zs qs m c (j / c) (j % c) m else 0) (fun x => r * c - x.1) ((0, List.replicate (r * c) 0)) ⟨Nat.zero_le _, by simp, fun j hj => ?_⟩ ?_ ?_
  · show (List.replicate (r * c) (0 : Int)).getD j 0 = if j < 0 then _ else 0
    rw [if_neg (Nat.not_lt_zero j)]
    simp [List.getD, hj]
  · conv => whnf
    repeat' (first
      | exact trivial | exact rfl
      | exact Or.inl (And.intro rfl rfl) | exact le_ints (rep_ints _ _)
      | exact Or.inl (And.intro (pureL_pair _ _ _ _ _ _) rfl) | refine And.intro ?_ ?_
      | exact Nat.le_of_ble_eq_true rfl | exact int_eq (by assumption))
  · rintro ⟨k, ws⟩ ⟨hk, hl, hall⟩
    have hk : k ≤ r * c := hk
    have hl : ws.length = r * c := hl
    have hall : ∀ j, j < r * c → ws.getD j 0 = if j < k then dotT zs qs m c (j / c) (j % c) m else 0 := hall
    by_cases hlt : k < r * c
    · have hwk : ws.getD k 0 = 0 := by rw [hall k hlt, if_neg (Nat.lt_irrefl k)]
      have d1 : k / c < r := Nat.div_lt_of_lt_mul (by rw [Nat.mul_comm]; exact hlt)
      have d2 : k % c < c := Nat.mod_lt _ (by omega)
      have d3 : k / c ≤ k := Nat.div_le_self _ _
      have q1 : IntKind.i64.wrap ((k : Int).tdiv (c : Int)) = ((k / c : Nat) : Int) := by
        rw [← Int.ofNat_tdiv]
        generalize k / c = y at d3 ⊢
        exact IntWalk.i64_in _ (by omega)
      have q2 : (k : Int).tmod (c : Int) = ((k % c : Nat) : Int) := by rw [← Int.ofNat_tmod]
      have hset : ws.set k (dotT zs qs m c (k / c) (k % c) 0) = ws := getD_ext (by simp) fun j hj => by
        rw [getD_set (by omega)]
        split
        · rename_i e'; subst e'; exact hwk.symm
        · rfl
      conv => whnf
      repeat' (first
        | ((first | refine plan_in (id := 13) [0, 1, 2, 3, 4, 5, 6, 7, 8, 9, 10, 11, 12, 13, 14, 15, 16, 17, 18, 19, 20, 21, 22, 23, 24, 25] (by kernel_rfl) (by kernel_rfl) ?_ | refine And.intro (by omega) ?_ | refine append_same ?_); conv => whnf) | (refine aIf_dec (fun _ => ?_) (fun _ => ?_) <;> conv => whnf))
      all_goals (first | (exfalso; omega) | skip)
      refine loop_u (ι := Nat) [false, false, true, true, false, false, true, true, true, true, true, true, false, false, false, false, false, false, false, false, false, false, false, false, false, false, false, false, false, false, true, true, false, false, false, false, false, false, false, false, true, true, false, false, false, false, false, false, false, false, false, false, false, false, false, false, false, false, false, false, false, false, false, false, false, false, false, false, false, false, false, false] (fun q => [(10, .int .i64 ((k / c : Nat) : Int)), (11, .int .i64 ((k % c : Nat) : Int)), (40, .int .i64 m), (41, .int .i64 q)]) (fun q => [(3, (ws.set k (dotT zs qs m c (k / c) (k % c) q)).map (.int .i64))]) (fun q => q ≤ m) (fun q => m - q) (0) (Nat.zero_le _) ?_ ?_
      · conv => whnf
        repeat' (first
          | exact trivial | exact rfl
          | exact Or.inl (And.intro rfl rfl) | exact Or.inl (And.intro (pureL_pair _ _ _ _ _ _) rfl)
          | refine le_ints ?_ | refine And.intro ?_ ?_
          | exact Nat.le_of_ble_eq_true rfl | exact int_eq (by assumption))
        all_goals exact congrArg (List.map (AV.int .i64)) hset.symm
      · intro q hq
        have hq : q ≤ m := hq
        have hls : (ws.set k (dotT zs qs m c (k / c) (k % c) q)).length = r * c := by rw [List.length_set]; exact hl
        by_cases hqm : q < m
        · have p1 := pix d1 hqm
          have p2 := pix hqm d2
          have b1 : r * m ≤ 16 := Nat.mul_le_mul r4.2 m4.2
          have b2 : m * c ≤ 16 := Nat.mul_le_mul m4.2 c4.2
          have i1 : IntKind.i64.wrap (IntKind.i64.wrap (((k / c : Nat) : Int) * (m : Int)) + (q : Int)) = ((k / c * m + q : Nat) : Int) := by
            rw [← Int.natCast_mul]
            generalize k / c * m = y at p1 ⊢
            rw [IntWalk.i64_in (y : Int) (by omega)]
            exact (IntWalk.i64_in _ (by omega)).trans (by omega)
          have i2 : IntKind.i64.wrap (IntKind.i64.wrap ((q : Int) * (c : Int)) + ((k % c : Nat) : Int)) = ((q * c + k % c : Nat) : Int) := by
            rw [← Int.natCast_mul]
            generalize q * c = y at p2 ⊢
            generalize k % c = z at p2 ⊢
            rw [IntWalk.i64_in (y : Int) (by omega)]
            exact (IntWalk.i64_in _ (by omega)).trans (by omega)
          have hnx : (ws.set k (dotT zs qs m c (k / c) (k % c) q)).set k (IntKind.i64.wrap ((ws.set k (dotT zs qs m c (k / c) (k % c) q)).getD k 0 + IntKind.i64.wrap (zs.getD (IntKind.i64.wrap (IntKind.i64.wrap (((k / c : Nat) : Int) * (m : Int)) + (q : Int))).toNat 0 * qs.getD (IntKind.i64.wrap (IntKind.i64.wrap ((q : Int) * (c : Int)) + ((k % c : Nat) : Int))).toNat 0))) = ws.set k (dotT zs qs m c (k / c) (k % c) (q + 1)) := by
            rw [i1, i2, Int.toNat_natCast, Int.toNat_natCast, getD_set (by omega), if_pos rfl, List.set_set]
            rfl
          conv => whnf
          repeat' (first
            | ((first | refine plan_in (id := 13) [0, 1, 2, 3, 4, 5, 6, 7, 8, 9, 10, 11, 12, 13, 14, 15, 16, 17, 18, 19, 20, 21, 22, 23, 24, 25] (by kernel_rfl) (by kernel_rfl) ?_ | refine get_nat0 (by omega) ?_ | refine get_int (by omega) ?_ | refine aGet_in rfl ?_ | refine And.intro (by omega) ?_ | refine append_same ?_ | refine And.intro rfl (And.intro rfl (And.intro (by first | omega | (rw [List.length_map]; omega)) ?_)) | refine set_nat ?_ (by omega)); conv => whnf) | (refine aIf_dec (fun _ => ?_) (fun _ => ?_) <;> conv => whnf))
          all_goals (first | (exfalso; omega) | skip)
          rw [hnx]
          refine next_u (q + 1) (show m - (q + 1) < m - q by omega) (show q + 1 ≤ m by omega) ?_
          conv => whnf
          repeat' (first
            | exact trivial | exact rfl
            | exact Or.inl (And.intro rfl rfl) | exact le_ints rfl
            | exact Or.inl (And.intro (pureL_pair _ _ _ _ _ _) rfl) | refine And.intro ?_ ?_
            | exact Nat.le_of_ble_eq_true rfl | exact int_eq (by rw [IntWalk.i64_in _ (by omega)] <;> omega))
        · have hqe : q = m := by omega
          subst hqe
          conv => whnf
          repeat' (first
            | ((first | refine plan_in (id := 13) [0, 1, 2, 3, 4, 5, 6, 7, 8, 9, 10, 11, 12, 13, 14, 15, 16, 17, 18, 19, 20, 21, 22, 23, 24, 25] (by kernel_rfl) (by kernel_rfl) ?_ | refine get_nat0 (by omega) ?_ | refine get_nat (by omega) ?_ | refine aGet_in rfl ?_ | refine And.intro (by omega) ?_ | refine append_same ?_ | refine set_nat ?_ (by omega)); conv => whnf) | (refine aIf_dec (fun _ => ?_) (fun _ => ?_) <;> conv => whnf))
          all_goals (first | (exfalso; omega) | skip)
          refine next_u (k + 1, ws.set k (dotT zs qs q c (k / c) (k % c) q)) (show r * c - (k + 1) < r * c - k by omega) ⟨(show k + 1 ≤ r * c by omega), hls, fun j hj => ?_⟩ ?_
          · show (ws.set k (dotT zs qs q c (k / c) (k % c) q)).getD j 0 = if j < k + 1 then _ else _
            rw [getD_set (by omega)]
            split
            · rename_i e'; subst e'; rw [if_pos (by omega)]
            · rw [hall j hj]
              by_cases h : j < k
              · rw [if_pos h, if_pos (by omega)]
              · rw [if_neg h, if_neg (by omega)]
          · conv => whnf
            repeat' (first
              | exact trivial | exact rfl
              | exact Or.inl (And.intro rfl rfl) | exact le_ints rfl
              | exact Or.inl (And.intro (pureL_pair _ _ _ _ _ _) rfl) | refine And.intro ?_ ?_
              | exact Nat.le_of_ble_eq_true rfl | exact int_eq (by rw [IntWalk.i64_in _ (by omega)] <;> omega))
    · have hws : ws = prL zs qs (xs.getD 0 0).toNat (xs.getD 1 0).toNat (ps.getD 1 0).toNat := by
        rw [e0, e1, e3]
        exact getD_ext (by rw [hl]; exact (prL_length _ _ _ _ _).symm) fun j hj => by
          rw [prL_length] at hj
          have hj : j < r * c := hj
          rw [hall j hj, if_pos (by omega)]; exact (prL_getD hj).symm
      subst hws
      conv => whnf
      repeat' (first
        | ((first | refine plan_in (id := 13) [0, 1, 2, 3, 4, 5, 6, 7, 8, 9, 10, 11, 12, 13, 14, 15, 16, 17, 18, 19, 20, 21, 22, 23, 24, 25] (by kernel_rfl) (by kernel_rfl) ?_ | refine And.intro (by omega) ?_ | refine append_same ?_); conv => whnf) | (refine aIf_dec (fun _ => ?_) (fun _ => ?_) <;> conv => whnf))
      all_goals (first | (exfalso; omega) | skip)
      exact retL rfl rfl rfl (by rw [hl])
theorem psP_of {xs zs ps qs : List Int} (h : prP xs zs ps qs) : psP xs zs ps qs := ⟨h.2.2.1, h.2.2.2.1, prF h⟩
theorem prL_len16 {xs zs ps qs : List Int} (h : psP xs zs ps qs) (us vs : List Int) : (prL us vs (xs.getD 0 0).toNat (xs.getD 1 0).toNat (ps.getD 1 0).toNat).length ≤ 16 := by
  obtain ⟨-, -, r, m, c, F⟩ := h
  rw [prL_length, F.e0, F.e3]
  exact Nat.mul_le_mul F.r4.2 F.c4.2
theorem productSums_call {cc d e f : Nat} {xs zs ps qs : List Int} {env : List AV} {rows : List Row} {ctr low : Nat} {k : AV → St → Prop} (hpre : psP xs zs ps qs) (h : k (.ref rows.length ctr 0 (prL zs qs (xs.getD 0 0).toNat (xs.getD 1 0).toNat (ps.getD 1 0).toNat).length) ⟨env, rows ++ [⟨ctr, 3, 1, (prL zs qs (xs.getD 0 0).toNat (xs.getD 1 0).toNat (ps.getD 1 0).toNat).map (.int .i64)⟩], ctr + 1, low⟩) :
    CallB Tryz.prog 150 ⟨env, rows, ctr, low⟩ [.agg [.sl cc xs.length (xs.map (.int .i64)), .sl d zs.length (zs.map (.int .i64))], .agg [.sl e ps.length (ps.map (.int .i64)), .sl f qs.length (qs.map (.int .i64))]] k := callL_in productSums_sound (cc, xs, d, zs, e, ps, f, qs) hpre h
def sProductOf : CSpec := fnTB (ι := Nat × List Int × Nat × List Int × Nat × List Int × Nat × List Int) 3 (fun | (c, xs, d, zs, e, ps, f, qs) => [.agg [.sl c xs.length (xs.map (.int .i64)), .sl d zs.length (zs.map (.int .i64))], .agg [.sl e ps.length (ps.map (.int .i64)), .sl f qs.length (qs.map (.int .i64))]]) (fun _ => True) (fun | (_, xs, _, zs, _, ps, _, qs) => prM xs zs ps qs)
set_option maxHeartbeats 4000000 in
set_option maxRecDepth 10000 in
theorem iProductOf_sound : Sound Tryz.prog 170 sProductOf := by
  refine sound_of Tryz.func170 rfl (enters_of Tryz.func170 (by kernel_rfl) (by kernel_rfl)) ?_
  rintro ⟨cc, xs, d, zs, e, ps, f, qs⟩ -
  have hmax : maxLen = 9223372036854775807 := rfl
  by_cases hP : prP xs zs ps qs
  · have hP' := hP
    obtain ⟨ht, hu, h3, h4, h5⟩ := hP'
    have hps := psP_of hP
    have hM : prM xs zs ps qs = told [xs.getD (Int.toNat 0) 0, ps.getD (Int.toNat 1) 0] (prL zs qs (xs.getD 0 0).toNat (xs.getD 1 0).toNat (ps.getD 1 0).toNat) := prM_t hP
    have hlen := prL_len16 hps zs qs
    have g5 : ps.getD (Int.toNat 0) 0 = xs.getD (Int.toNat 1) 0 := h5.symm
    conv => whnf
    repeat' (first
      | ((first | refine plan_inF [102] (id := 3) [0, 1, 2, 3, 4, 5, 6, 7, 8] (by kernel_rfl) (by kernel_rfl) ?_ | refine tree_inF [102] (id := 5) (.one 0 (.one 1 (.one 2 (.one 3 (.one 4 (.one 5 (.one 6 (.one 7 (.one 9 (.one 10 (.two 8 11 (.one 11 (.one 12 (.one 13 (.one 14 (.one 15 (.one 16 .nil)))))) (.one 8 (.one 12 (.one 13 (.one 14 (.one 15 (.one 16 .nil))))))))))))))))) (by kernel_rfl) (by kernel_rfl) ?_); conv => whnf) | (refine fork_in ?_ ?_ <;> conv => whnf) | ((first | refine aIf_t ?_ | refine aIf_f ?_ | refine fun (_ : _ ≤ maxLen) => ?_ | refine get_int (by omega) ?_ | refine aGet_in rfl ?_ | refine And.intro (by omega) ?_ | refine load_same ?_ | refine And.intro rfl (And.intro (List.cons_ne_nil _ _) ?_) | refine And.intro (Nat.le_of_ble_eq_true rfl) ?_); conv => whnf) | (refine orNone_call [_, _] _ rfl rfl (by decide) (by first | rfl | omega) (by first | rfl | omega) (fun _ => ?_) (fun _ => ?_) <;> conv => whnf) | ((first | refine callG_t ?_ | refine iTensorOk_call ?_ | refine append_same ?_ | refine productSums_call (by assumption) ?_ | refine takeN_in ?_ | refine And.intro (pureL_ints _ _) ?_ | refine set_force ?_ | refine And.intro (And.intro (by kernel_rfl) (And.intro rfl (Nat.le_of_ble_eq_true rfl))) ?_ | refine And.intro (by kernel_rfl) ?_ | refine aIf_tt (by assumption) ?_); conv => whnf) | refine aIf_eqf ?_
      | refine aIf_not ?_ | (refine aIf_dec (fun _ => ?_) (fun _ => ?_) <;> conv => whnf))
    all_goals (first | (exfalso; omega) | skip)
    all_goals (first | (refine retTB (hM := hM.trans (told_t (by assumption))) ?_ ?_ ?_ ?_ ?_ <;> first | exact rfl | decide | (simp; done)) | (refine retTB (hM := hM.trans (told_f (by assumption))) ?_ ?_ ?_ ?_ ?_ <;> first | exact rfl | decide | (simp; done)))
  · rcases tensor_or xs zs with ⟨ht, hx, hz⟩ | ht
    · rcases tensor_or ps qs with ⟨hu, hy, hw⟩ | hu
      · have hQ : ¬ (xs.length = 2 ∧ ps.length = 2 ∧ ps.getD (Int.toNat 0) 0 = xs.getD (Int.toNat 1) 0) := fun h => hP ⟨ht, hu, h.1, h.2.1, h.2.2.symm⟩
        conv => whnf
        repeat' (first
          | ((first | refine plan_inF [102] (id := 3) [0, 1, 2, 3, 4, 5, 6, 7, 8] (by kernel_rfl) (by kernel_rfl) ?_ | refine tree_inF [102] (id := 5) (.one 0 (.one 1 (.one 2 (.one 3 (.one 4 (.one 5 (.one 6 (.one 7 (.one 9 (.one 10 (.two 8 11 (.one 11 (.one 12 (.one 13 (.one 14 (.one 15 (.one 16 .nil)))))) (.one 8 (.one 12 (.one 13 (.one 14 (.one 15 (.one 16 .nil))))))))))))))))) (by kernel_rfl) (by kernel_rfl) ?_); conv => whnf) | (refine fork_in ?_ ?_ <;> conv => whnf) | ((first | refine aIf_t ?_ | refine aIf_f ?_ | refine fun (_ : _ ≤ maxLen) => ?_ | refine get_nat (by omega) ?_ | refine get_int (by omega) ?_ | refine aGet_in rfl ?_ | refine And.intro (by omega) ?_ | refine load_same ?_ | refine And.intro rfl (And.intro (List.cons_ne_nil _ _) ?_) | refine And.intro (Nat.le_of_ble_eq_true rfl) ?_ | refine callG_t ?_ | refine iTensorOk_call ?_ | refine append_same ?_ | refine takeN_in ?_ | refine And.intro (pureL_ints _ _) ?_ | refine set_force ?_ | refine And.intro (by kernel_rfl) ?_ | refine aIf_tt (by assumption) ?_); conv => whnf) | refine aIf_eqf ?_
          | refine aIf_not ?_ | (refine aIf_dec (fun _ => ?_) (fun _ => ?_) <;> conv => whnf))
        all_goals (first | (exfalso; omega) | skip)
        all_goals (refine retTB (hM := prM_f hP) ?_ ?_ ?_ ?_ ?_ <;> first | exact rfl | decide | (simp; done))
      · conv => whnf
        repeat' (first
          | ((first | refine plan_inF [102] (id := 3) [0, 1, 2, 3, 4, 5, 6, 7, 8] (by kernel_rfl) (by kernel_rfl) ?_ | refine tree_inF [102] (id := 5) (.one 0 (.one 1 (.one 2 (.one 3 (.one 4 (.one 5 (.one 6 (.one 7 (.one 9 (.one 10 (.two 8 11 (.one 11 (.one 12 (.one 13 (.one 14 (.one 15 (.one 16 .nil)))))) (.one 8 (.one 12 (.one 13 (.one 14 (.one 15 (.one 16 .nil))))))))))))))))) (by kernel_rfl) (by kernel_rfl) ?_ | refine aIf_t ?_ | refine aIf_f ?_ | refine load_same ?_ | refine And.intro rfl (And.intro (List.cons_ne_nil _ _) ?_) | refine And.intro (Nat.le_of_ble_eq_true rfl) ?_ | refine callG_t ?_ | refine iTensorOk_call ?_ | refine append_same ?_ | refine takeN_in ?_ | refine And.intro (pureL_ints _ _) ?_ | refine set_force ?_ | refine And.intro (by kernel_rfl) ?_ | refine aIf_tt (by assumption) ?_ | refine aIf_ff (by assumption) ?_); conv => whnf) | refine aIf_eqf ?_
          | refine aIf_not ?_)
        all_goals (first | (exfalso; omega) | skip)
        all_goals (refine retTB (hM := prM_f hP) ?_ ?_ ?_ ?_ ?_ <;> first | exact rfl | decide | (simp; done))
    · conv => whnf
      repeat' (first
        | ((first | refine plan_inF [102] (id := 3) [0, 1, 2, 3, 4, 5, 6, 7, 8] (by kernel_rfl) (by kernel_rfl) ?_ | refine tree_inF [102] (id := 5) (.one 0 (.one 1 (.one 2 (.one 3 (.one 4 (.one 5 (.one 6 (.one 7 (.one 9 (.one 10 (.two 8 11 (.one 11 (.one 12 (.one 13 (.one 14 (.one 15 (.one 16 .nil)))))) (.one 8 (.one 12 (.one 13 (.one 14 (.one 15 (.one 16 .nil))))))))))))))))) (by kernel_rfl) (by kernel_rfl) ?_ | refine aIf_t ?_ | refine aIf_f ?_ | refine load_same ?_ | refine And.intro rfl (And.intro (List.cons_ne_nil _ _) ?_) | refine And.intro (Nat.le_of_ble_eq_true rfl) ?_ | refine callG_t ?_ | refine iTensorOk_call ?_ | refine append_same ?_ | refine takeN_in ?_ | refine And.intro (pureL_ints _ _) ?_ | refine set_force ?_ | refine And.intro (by kernel_rfl) ?_ | refine aIf_ff (by assumption) ?_); conv => whnf) | refine aIf_eqf ?_
        | refine aIf_not ?_)
      all_goals (first | (exfalso; omega) | skip)
      all_goals (refine retTB (hM := prM_f hP) ?_ ?_ ?_ ?_ ?_ <;> first | exact rfl | decide | (simp; done))
end Go.Proofs.YtjmdhfjemaoebaaGreat
