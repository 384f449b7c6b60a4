/- Chapter 2: what the laws do with tensors. -/
import Derived.Test.YtegoncendpboiaaS1
import Derived.Test.YtegoncendpboiaaAmU
namespace Go.Proofs.Ytegoncendpboiaa
set_option maxRecDepth 20000
open Go.RowKit Go.Am
attribute [local irreducible] aPlan aGet aIf aLoop aCall RetB NextB CallB CallG aCut aSet aAppend

/-- What is left behind lists: at least nought, then the lists are short. -/
abbrev leftOf (zs : List Int) (m : Int) (r : AV) (news : List Row) : Prop := ∃ n : Int, r = .int .i64 n ∧ news = [] ∧ (n < 0 ∨ (0 ≤ n ∧ n = m - zs.length))
set_option maxRecDepth 10000 in
theorem szIntS_sound : Sound Try.prog 71 (fnP (ι := Nat × List Int × Int) (fun | (c, zs, m) => [.sl c zs.length (zs.map (.int .i64)), .int .i64 m]) (fun | (_, _, m) => 0 ≤ m ∧ m ≤ 1048576) (fun | (_, zs, m) => leftOf zs m)) := by
  refine sound_of Try.func71 rfl (enters_of Try.func71 (by kernel_rfl) (by kernel_rfl)) ?_
  rintro ⟨c, zs, m⟩ hpre
  have hpre : 0 ≤ m ∧ m ≤ 1048576 := hpre
  have hmax : maxLen = 9223372036854775807 := rfl
  conv => whnf
  repeat' (first
    | (refine aIf_t ?_; conv => whnf)
    | (refine aIf_f ?_; conv => whnf)
    | (refine fun (_ : _ ≤ maxLen) => ?_; conv => whnf)
    | (refine get_nat0 (by omega) ?_; conv => whnf)
    | (refine get_int0 (by omega) ?_; conv => whnf)
    | (refine get_nat (by omega) ?_; conv => whnf)
    | (refine get_int (by omega) ?_; conv => whnf)
    | (refine aGet_in rfl ?_; conv => whnf)
    | (refine And.intro (And.intro (Int.le_refl _) (And.intro (by kernel_rfl) (And.intro rfl (by kernel_rfl)))) (And.intro (And.intro (by omega) (And.intro (bytes_le (b := 8) rfl (by omega)) (by omega))) ?_); conv => whnf)
    | (refine And.intro (by omega) ?_; conv => whnf)
    | (refine load_same ?_; conv => whnf)
    | (refine And.intro (by rw [List.length_map]; omega) ?_; conv => whnf)
    | (refine And.intro rfl (And.intro (List.cons_ne_nil _ _) ?_); conv => whnf)
    | (refine And.intro (Nat.le_of_ble_eq_true rfl) ?_; conv => whnf)
    | (refine callG_t ?_; conv => whnf)
    | (refine And.intro (And.intro (Int.le_refl _) (And.intro (by kernel_rfl) (And.intro rfl (by kernel_rfl)))) (And.intro (And.intro (by omega) (And.intro (bytes_le (b := 24) rfl (by omega)) (by omega))) ?_); conv => whnf)
    | (refine And.intro (And.intro (Int.le_refl _) (And.intro (by kernel_rfl) (And.intro rfl (by kernel_rfl)))) (And.intro (And.intro (by omega) (And.intro (bytes_le (b := 48) rfl (by omega)) (by omega))) ?_); conv => whnf)
    | (refine takeN_in ?_; conv => whnf)
    | (refine And.intro (pureL_ints _ _) ?_; conv => whnf)
    | (refine And.intro (pureL_take _ _ _) ?_; conv => whnf)
    | (refine And.intro (pureL_cut _ _ _ _) ?_; conv => whnf)
    | (refine cut_ints ?_; conv => whnf)
    | (refine cut_marks ?_; conv => whnf)
    | (refine cut_all rfl (scalL_ints _ _) ?_; conv => whnf)
    | (refine cut_all (by simp only [List.length_map]; omega) (scalL_ints _ _) ?_; conv => whnf)
    | (refine And.intro rfl (And.intro rfl (And.intro (by first | omega | (rw [List.length_map]; omega)) ?_)); conv => whnf)
    | (refine set_nat ?_ (by omega); conv => whnf)
    | (refine set_int ?_ (by omega); conv => whnf)
    | (refine set_bool ?_ (by omega); conv => whnf)
    | (refine set_force ?_; conv => whnf)
    | (refine get_bool0 (by omega) ?_; conv => whnf)
    | (refine And.intro (And.intro (Int.le_refl _) (And.intro (by kernel_rfl) (And.intro rfl (by kernel_rfl)))) (And.intro (And.intro (by omega) (And.intro (bytes_le (b := 1) rfl (by omega)) (by omega))) ?_); conv => whnf)
    | (refine And.intro (And.intro (by kernel_rfl) (And.intro rfl (Nat.le_of_ble_eq_true rfl))) ?_; conv => whnf)
    | (refine And.intro (And.intro (by kernel_rfl) (by kernel_rfl)) ?_; conv => whnf)
    | (refine And.intro (by kernel_rfl) ?_; conv => whnf)
    | (refine aIf_tt (by assumption) ?_; conv => whnf)
    | (refine aIf_ff (by assumption) ?_; conv => whnf)
    | refine aIf_eqt ?_
    | refine aIf_eqf ?_
    | refine aIf_not ?_
    | (refine aIf_bself ?_; conv => whnf)
    | (refine aIf_beself ?_; conv => whnf)
    | (refine aIf_iself ?_; conv => whnf)
    | (refine aIf_decself ?_; conv => whnf)
    | (refine aIf_dec (fun _ => ?_) (fun _ => ?_) <;> conv => whnf)
    | (refine aIf_beq (fun _ => ?_) (fun _ => ?_) <;> conv => whnf)
    | (refine aIf_bne (fun _ => ?_) (fun _ => ?_) <;> conv => whnf)
    | (refine aIf_bbne (fun _ => ?_) (fun _ => ?_) <;> conv => whnf)
    | (refine aIf_bbeq (fun _ => ?_) (fun _ => ?_) <;> conv => whnf)
    | (refine aIf_in (fun _ => ?_) (fun _ => ?_) <;> conv => whnf))
  · exact retP1 (L := []) (by simp) rfl rfl ⟨_, rfl, rfl, .inl (by decide)⟩
  · rename_i h1 h2
    rw [IntWalk.i64_in (m - zs.length) (by omega)] at h2
    exact retP1 (L := []) (by simp) rfl rfl ⟨_, rfl, rfl, .inr (by rw [IntWalk.i64_in _ (by omega)]; omega)⟩
theorem szIntS_call {c : Nat} {zs : List Int} {m : Int} {env : List AV} {rows : List Row} {ctr low : Nat} {k : AV → St → Prop} (hpre : 0 ≤ m ∧ m ≤ 1048576) (hk : ∀ n : Int, (n < 0 ∨ (0 ≤ n ∧ n = m - zs.length)) → k (.int .i64 n) ⟨env, rows, ctr + 1, low⟩) :
    CallB Try.prog 71 ⟨env, rows, ctr, low⟩ [.sl c zs.length (zs.map (.int .i64)), .int .i64 m] k := callP_in szIntS_sound (c, zs, m) hpre (by
  rintro r news ⟨n, rfl, rfl, h⟩
  simpa [AV.back, St.news] using hk n h)

abbrev leftOf2 (xs zs : List Int) (m : Int) (r : AV) (news : List Row) : Prop := ∃ n : Int, r = .int .i64 n ∧ news = [] ∧ (n < 0 ∨ (0 ≤ n ∧ n = m - xs.length - zs.length))
set_option maxRecDepth 10000 in
theorem szTensor_sound : Sound Try.prog 16 (fnP (ι := Nat × List Int × Nat × List Int × Int) (fun | (c, xs, d, zs, m) => [.agg [.sl c xs.length (xs.map (.int .i64)), .sl d zs.length (zs.map (.int .i64))], .int .i64 m]) (fun | (_, _, _, _, m) => 0 ≤ m ∧ m ≤ 1048576) (fun | (_, xs, _, zs, m) => leftOf2 xs zs m)) := by
  refine sound_of Try.func16 rfl (enters_of Try.func16 (by kernel_rfl) (by kernel_rfl)) ?_
  rintro ⟨c, xs, d, zs, m⟩ hpre
  have hpre : 0 ≤ m ∧ m ≤ 1048576 := hpre
  conv => whnf
  repeat' (first
    | (refine aIf_t ?_; conv => whnf)
    | (refine aIf_f ?_; conv => whnf)
    | (refine fun (_ : _ ≤ maxLen) => ?_; conv => whnf)
    | (refine get_nat0 (by omega) ?_; conv => whnf)
    | (refine get_int0 (by omega) ?_; conv => whnf)
    | (refine get_nat (by omega) ?_; conv => whnf)
    | (refine get_int (by omega) ?_; conv => whnf)
    | (refine aGet_in rfl ?_; conv => whnf)
    | (refine And.intro (And.intro (Int.le_refl _) (And.intro (by kernel_rfl) (And.intro rfl (by kernel_rfl)))) (And.intro (And.intro (by omega) (And.intro (bytes_le (b := 8) rfl (by omega)) (by omega))) ?_); conv => whnf)
    | (refine And.intro (by omega) ?_; conv => whnf)
    | (refine load_same ?_; conv => whnf)
    | (refine And.intro (by rw [List.length_map]; omega) ?_; conv => whnf)
    | (refine And.intro rfl (And.intro (List.cons_ne_nil _ _) ?_); conv => whnf)
    | (refine And.intro (Nat.le_of_ble_eq_true rfl) ?_; conv => whnf)
    | (refine callG_t ?_; conv => whnf)
    | (refine szIntS_call (by omega) (fun _ _ => ?_); conv => whnf)
    | (refine And.intro (And.intro (Int.le_refl _) (And.intro (by kernel_rfl) (And.intro rfl (by kernel_rfl)))) (And.intro (And.intro (by omega) (And.intro (bytes_le (b := 24) rfl (by omega)) (by omega))) ?_); conv => whnf)
    | (refine And.intro (And.intro (Int.le_refl _) (And.intro (by kernel_rfl) (And.intro rfl (by kernel_rfl)))) (And.intro (And.intro (by omega) (And.intro (bytes_le (b := 48) rfl (by omega)) (by omega))) ?_); conv => whnf)
    | (refine takeN_in ?_; conv => whnf)
    | (refine And.intro (pureL_ints _ _) ?_; conv => whnf)
    | (refine And.intro (pureL_take _ _ _) ?_; conv => whnf)
    | (refine And.intro (pureL_cut _ _ _ _) ?_; conv => whnf)
    | (refine cut_ints ?_; conv => whnf)
    | (refine cut_marks ?_; conv => whnf)
    | (refine cut_all rfl (scalL_ints _ _) ?_; conv => whnf)
    | (refine cut_all (by simp only [List.length_map]; omega) (scalL_ints _ _) ?_; conv => whnf)
    | (refine And.intro rfl (And.intro rfl (And.intro (by first | omega | (rw [List.length_map]; omega)) ?_)); conv => whnf)
    | (refine set_nat ?_ (by omega); conv => whnf)
    | (refine set_int ?_ (by omega); conv => whnf)
    | (refine set_bool ?_ (by omega); conv => whnf)
    | (refine set_force ?_; conv => whnf)
    | (refine get_bool0 (by omega) ?_; conv => whnf)
    | (refine And.intro (And.intro (Int.le_refl _) (And.intro (by kernel_rfl) (And.intro rfl (by kernel_rfl)))) (And.intro (And.intro (by omega) (And.intro (bytes_le (b := 1) rfl (by omega)) (by omega))) ?_); conv => whnf)
    | (refine And.intro (And.intro (by kernel_rfl) (And.intro rfl (Nat.le_of_ble_eq_true rfl))) ?_; conv => whnf)
    | (refine And.intro (And.intro (by kernel_rfl) (by kernel_rfl)) ?_; conv => whnf)
    | (refine And.intro (by kernel_rfl) ?_; conv => whnf)
    | (refine aIf_tt (by assumption) ?_; conv => whnf)
    | (refine aIf_ff (by assumption) ?_; conv => whnf)
    | refine aIf_eqt ?_
    | refine aIf_eqf ?_
    | refine aIf_not ?_
    | (refine aIf_bself ?_; conv => whnf)
    | (refine aIf_beself ?_; conv => whnf)
    | (refine aIf_iself ?_; conv => whnf)
    | (refine aIf_decself ?_; conv => whnf)
    | (refine aIf_dec (fun _ => ?_) (fun _ => ?_) <;> conv => whnf)
    | (refine aIf_beq (fun _ => ?_) (fun _ => ?_) <;> conv => whnf)
    | (refine aIf_bne (fun _ => ?_) (fun _ => ?_) <;> conv => whnf)
    | (refine aIf_bbne (fun _ => ?_) (fun _ => ?_) <;> conv => whnf)
    | (refine aIf_bbeq (fun _ => ?_) (fun _ => ?_) <;> conv => whnf)
    | (refine aIf_in (fun _ => ?_) (fun _ => ?_) <;> conv => whnf))
  · exact retP1 (L := []) (by simp) rfl rfl ⟨_, rfl, rfl, .inl (by decide)⟩
  · exact retP1 (L := []) (by simp) rfl rfl ⟨_, rfl, rfl, .inl (by decide)⟩
  · rename_i n1 h1 h2 n2 h3 h4
    exact retP1 (L := []) (by simp) rfl rfl ⟨_, rfl, rfl, .inr (by omega)⟩
theorem szTensor_call {c d : Nat} {xs zs : List Int} {m : Int} {env : List AV} {rows : List Row} {ctr low : Nat} {k : AV → St → Prop} (hpre : 0 ≤ m ∧ m ≤ 1048576) (hk : ∀ n : Int, (n < 0 ∨ (0 ≤ n ∧ n = m - xs.length - zs.length)) → k (.int .i64 n) ⟨env, rows, ctr + 1, low⟩) :
    CallB Try.prog 16 ⟨env, rows, ctr, low⟩ [.agg [.sl c xs.length (xs.map (.int .i64)), .sl d zs.length (zs.map (.int .i64))], .int .i64 m] k := callP_in szTensor_sound (c, xs, d, zs, m) hpre (by
  rintro r news ⟨n, rfl, rfl, h⟩
  simpa [AV.back, St.news] using hk n h)

set_option maxRecDepth 10000 in
theorem toTensor_sound : Sound Try.prog 18 (fnT (ι := Nat × List Int × Nat × List Int) 3 (fun | (c, xs, d, zs) => [.agg [.sl c xs.length (xs.map (.int .i64)), .sl d zs.length (zs.map (.int .i64))]]) (fun | (_, xs, _, zs) => xs.length ≤ 1048576 ∧ zs.length ≤ 1048576) (fun | (_, xs, _, _) => xs) (fun | (_, _, _, zs) => zs)) := by
  refine sound_of Try.func18 rfl (enters_of Try.func18 (by kernel_rfl) (by kernel_rfl)) ?_
  rintro ⟨c, xs, d, zs⟩ hpre
  have hpre : xs.length ≤ 1048576 ∧ zs.length ≤ 1048576 := hpre
  conv => whnf
  repeat' (first
    | (refine aIf_t ?_; conv => whnf)
    | (refine aIf_f ?_; conv => whnf)
    | (refine fun (_ : _ ≤ maxLen) => ?_; conv => whnf)
    | (refine get_nat0 (by omega) ?_; conv => whnf)
    | (refine get_int0 (by omega) ?_; conv => whnf)
    | (refine get_nat (by omega) ?_; conv => whnf)
    | (refine get_int (by omega) ?_; conv => whnf)
    | (refine aGet_in rfl ?_; conv => whnf)
    | (refine And.intro (And.intro (Int.le_refl _) (And.intro (by kernel_rfl) (And.intro rfl (by kernel_rfl)))) (And.intro (And.intro (by omega) (And.intro (bytes_le (b := 8) rfl (by omega)) (by omega))) ?_); conv => whnf)
    | (refine And.intro (by omega) ?_; conv => whnf)
    | (refine load_same ?_; conv => whnf)
    | (refine And.intro (by rw [List.length_map]; omega) ?_; conv => whnf)
    | (refine And.intro rfl (And.intro (List.cons_ne_nil _ _) ?_); conv => whnf)
    | (refine And.intro (Nat.le_of_ble_eq_true rfl) ?_; conv => whnf)
    | (refine callG_t ?_; conv => whnf)
    | (refine And.intro (And.intro (Int.le_refl _) (And.intro (by kernel_rfl) (And.intro rfl (by kernel_rfl)))) (And.intro (And.intro (by omega) (And.intro (bytes_le (b := 24) rfl (by omega)) (by omega))) ?_); conv => whnf)
    | (refine And.intro (And.intro (Int.le_refl _) (And.intro (by kernel_rfl) (And.intro rfl (by kernel_rfl)))) (And.intro (And.intro (by omega) (And.intro (bytes_le (b := 48) rfl (by omega)) (by omega))) ?_); conv => whnf)
    | (refine takeN_in ?_; conv => whnf)
    | (refine And.intro (pureL_ints _ _) ?_; conv => whnf)
    | (refine And.intro (pureL_take _ _ _) ?_; conv => whnf)
    | (refine And.intro (pureL_cut _ _ _ _) ?_; conv => whnf)
    | (refine cut_ints ?_; conv => whnf)
    | (refine cut_marks ?_; conv => whnf)
    | (refine cut_all rfl (scalL_ints _ _) ?_; conv => whnf)
    | (refine cut_all (by simp only [List.length_map]; omega) (scalL_ints _ _) ?_; conv => whnf)
    | (refine toIntS_call (by omega) ?_; conv => whnf)
    | (refine And.intro rfl (And.intro rfl (And.intro (by first | omega | (rw [List.length_map]; omega)) ?_)); conv => whnf)
    | (refine set_nat ?_ (by omega); conv => whnf)
    | (refine set_int ?_ (by omega); conv => whnf)
    | (refine set_bool ?_ (by omega); conv => whnf)
    | (refine set_force ?_; conv => whnf)
    | (refine get_bool0 (by omega) ?_; conv => whnf)
    | (refine And.intro (And.intro (Int.le_refl _) (And.intro (by kernel_rfl) (And.intro rfl (by kernel_rfl)))) (And.intro (And.intro (by omega) (And.intro (bytes_le (b := 1) rfl (by omega)) (by omega))) ?_); conv => whnf)
    | (refine And.intro (And.intro (by kernel_rfl) (And.intro rfl (Nat.le_of_ble_eq_true rfl))) ?_; conv => whnf)
    | (refine And.intro (And.intro (by kernel_rfl) (by kernel_rfl)) ?_; conv => whnf)
    | (refine And.intro (by kernel_rfl) ?_; conv => whnf)
    | (refine aIf_tt (by assumption) ?_; conv => whnf)
    | (refine aIf_ff (by assumption) ?_; conv => whnf)
    | refine aIf_eqt ?_
    | refine aIf_eqf ?_
    | refine aIf_not ?_
    | (refine aIf_bself ?_; conv => whnf)
    | (refine aIf_beself ?_; conv => whnf)
    | (refine aIf_iself ?_; conv => whnf)
    | (refine aIf_decself ?_; conv => whnf)
    | (refine aIf_dec (fun _ => ?_) (fun _ => ?_) <;> conv => whnf)
    | (refine aIf_beq (fun _ => ?_) (fun _ => ?_) <;> conv => whnf)
    | (refine aIf_bne (fun _ => ?_) (fun _ => ?_) <;> conv => whnf)
    | (refine aIf_bbne (fun _ => ?_) (fun _ => ?_) <;> conv => whnf)
    | (refine aIf_bbeq (fun _ => ?_) (fun _ => ?_) <;> conv => whnf)
    | (refine aIf_in (fun _ => ?_) (fun _ => ?_) <;> conv => whnf))
  refine retT ?_ ?_ ?_ ?_ ?_
  all_goals (first | exact rfl | decide)
theorem toTensor_call {c d : Nat} {xs zs : List Int} {env : List AV} {rows : List Row} {ctr low : Nat} {k : AV → St → Prop} (hpre : xs.length ≤ 1048576 ∧ zs.length ≤ 1048576)
    (hk : k (.agg [.ref rows.length ctr 0 xs.length, .ref (rows.length + 1) ctr 0 zs.length]) ⟨env, rows ++ [⟨ctr, 3, 1, xs.map (.int .i64)⟩, ⟨ctr, 3, 1, zs.map (.int .i64)⟩], ctr + 1, low⟩) :
    CallB Try.prog 18 ⟨env, rows, ctr, low⟩ [.agg [.sl c xs.length (xs.map (.int .i64)), .sl d zs.length (zs.map (.int .i64))]] k := callT_in toTensor_sound (c, xs, d, zs) hpre hk

set_option maxRecDepth 10000 in
theorem eqTensor_sound : Sound Try.prog 20 (fnS (ι := (Nat × List Int × Nat × List Int) × (Nat × List Int × Nat × List Int)) (fun | ((c, xs, d, zs), (e, ys, f, ws)) => [.agg [.sl c xs.length (xs.map (.int .i64)), .sl d zs.length (zs.map (.int .i64))], .agg [.sl e ys.length (ys.map (.int .i64)), .sl f ws.length (ws.map (.int .i64))]]) (fun _ => True) (fun | ((_, xs, _, zs), (_, ys, _, ws)) => .bool (decide ((xs, zs) = (ys, ws))))) := by
  refine sound_of Try.func20 rfl (enters_of Try.func20 (by kernel_rfl) (by kernel_rfl)) ?_
  rintro ⟨⟨c, xs, d, zs⟩, ⟨e, ys, f, ws⟩⟩ -
  conv => whnf
  repeat' (first
    | (refine aIf_t ?_; conv => whnf)
    | (refine aIf_f ?_; conv => whnf)
    | (refine fun (_ : _ ≤ maxLen) => ?_; conv => whnf)
    | (refine get_nat0 (by omega) ?_; conv => whnf)
    | (refine get_int0 (by omega) ?_; conv => whnf)
    | (refine get_nat (by omega) ?_; conv => whnf)
    | (refine get_int (by omega) ?_; conv => whnf)
    | (refine aGet_in rfl ?_; conv => whnf)
    | (refine And.intro (And.intro (Int.le_refl _) (And.intro (by kernel_rfl) (And.intro rfl (by kernel_rfl)))) (And.intro (And.intro (by omega) (And.intro (bytes_le (b := 8) rfl (by omega)) (by omega))) ?_); conv => whnf)
    | (refine And.intro (by omega) ?_; conv => whnf)
    | (refine load_same ?_; conv => whnf)
    | (refine And.intro (by rw [List.length_map]; omega) ?_; conv => whnf)
    | (refine And.intro rfl (And.intro (List.cons_ne_nil _ _) ?_); conv => whnf)
    | (refine And.intro (Nat.le_of_ble_eq_true rfl) ?_; conv => whnf)
    | (refine callG_t ?_; conv => whnf)
    | (refine And.intro (And.intro (Int.le_refl _) (And.intro (by kernel_rfl) (And.intro rfl (by kernel_rfl)))) (And.intro (And.intro (by omega) (And.intro (bytes_le (b := 24) rfl (by omega)) (by omega))) ?_); conv => whnf)
    | (refine And.intro (And.intro (Int.le_refl _) (And.intro (by kernel_rfl) (And.intro rfl (by kernel_rfl)))) (And.intro (And.intro (by omega) (And.intro (bytes_le (b := 48) rfl (by omega)) (by omega))) ?_); conv => whnf)
    | (refine takeN_in ?_; conv => whnf)
    | (refine And.intro (pureL_ints _ _) ?_; conv => whnf)
    | (refine And.intro (pureL_take _ _ _) ?_; conv => whnf)
    | (refine And.intro (pureL_cut _ _ _ _) ?_; conv => whnf)
    | (refine cut_ints ?_; conv => whnf)
    | (refine cut_marks ?_; conv => whnf)
    | (refine cut_all rfl (scalL_ints _ _) ?_; conv => whnf)
    | (refine cut_all (by simp only [List.length_map]; omega) (scalL_ints _ _) ?_; conv => whnf)
    | (refine eqIntS_call ?_; conv => whnf)
    | (refine And.intro rfl (And.intro rfl (And.intro (by first | omega | (rw [List.length_map]; omega)) ?_)); conv => whnf)
    | (refine set_nat ?_ (by omega); conv => whnf)
    | (refine set_int ?_ (by omega); conv => whnf)
    | (refine set_bool ?_ (by omega); conv => whnf)
    | (refine set_force ?_; conv => whnf)
    | (refine get_bool0 (by omega) ?_; conv => whnf)
    | (refine And.intro (And.intro (Int.le_refl _) (And.intro (by kernel_rfl) (And.intro rfl (by kernel_rfl)))) (And.intro (And.intro (by omega) (And.intro (bytes_le (b := 1) rfl (by omega)) (by omega))) ?_); conv => whnf)
    | (refine And.intro (And.intro (by kernel_rfl) (And.intro rfl (Nat.le_of_ble_eq_true rfl))) ?_; conv => whnf)
    | (refine And.intro (And.intro (by kernel_rfl) (by kernel_rfl)) ?_; conv => whnf)
    | (refine And.intro (by kernel_rfl) ?_; conv => whnf)
    | (refine aIf_tt (by assumption) ?_; conv => whnf)
    | (refine aIf_ff (by assumption) ?_; conv => whnf)
    | refine aIf_eqt ?_
    | refine aIf_eqf ?_
    | refine aIf_not ?_
    | (refine aIf_bself ?_; conv => whnf)
    | (refine aIf_beself ?_; conv => whnf)
    | (refine aIf_iself ?_; conv => whnf)
    | (refine aIf_decself ?_; conv => whnf)
    | (refine aIf_dec (fun _ => ?_) (fun _ => ?_) <;> conv => whnf)
    | (refine aIf_beq (fun _ => ?_) (fun _ => ?_) <;> conv => whnf)
    | (refine aIf_bne (fun _ => ?_) (fun _ => ?_) <;> conv => whnf)
    | (refine aIf_bbne (fun _ => ?_) (fun _ => ?_) <;> conv => whnf)
    | (refine aIf_bbeq (fun _ => ?_) (fun _ => ?_) <;> conv => whnf)
    | (refine aIf_in (fun _ => ?_) (fun _ => ?_) <;> conv => whnf))
  all_goals refine retS rfl (congrArg AV.bool ?_)
  all_goals simp_all
theorem eqTensor_call {c d e f : Nat} {xs zs ys ws : List Int} {env : List AV} {rows : List Row} {ctr low : Nat} {k : AV → St → Prop} (h : k (.bool (decide ((xs, zs) = (ys, ws)))) ⟨env, rows, ctr + 1, low⟩) :
    CallB Try.prog 20 ⟨env, rows, ctr, low⟩ [.agg [.sl c xs.length (xs.map (.int .i64)), .sl d zs.length (zs.map (.int .i64))], .agg [.sl e ys.length (ys.map (.int .i64)), .sl f ws.length (ws.map (.int .i64))]] k := callS_in eqTensor_sound ((c, xs, d, zs), (e, ys, f, ws)) trivial rfl h

def sMarkT : CSpec := fnMT (ι := List Int × List Int × Int) 3 (fun x => x.1) (fun x => x.2.1) (fun x => x.2.2) (fun x => x.1.length ≤ 1048576 ∧ x.2.1.length ≤ 1048576 ∧ 0 ≤ x.2.2 ∧ x.2.2 ≤ 100000000000) (fun x => x.2.2 + x.1.length + x.2.1.length) (fun x => marks x.2.2 x.1.length) (fun x => marks (x.2.2 + x.1.length) x.2.1.length)
set_option maxRecDepth 10000 in
theorem markTensor_sound : Sound Try.prog 21 sMarkT := by
  refine sound_of Try.func21 rfl (enters_of Try.func21 (by kernel_rfl) (by kernel_rfl)) ?_
  rintro ⟨xs, zs, m⟩ hpre
  have hpre : xs.length ≤ 1048576 ∧ zs.length ≤ 1048576 ∧ 0 ≤ m ∧ m ≤ 100000000000 := hpre
  conv => whnf
  dsimp only
  repeat' (first
    | (refine aIf_t ?_; conv => whnf)
    | (refine aIf_f ?_; conv => whnf)
    | (refine fun (_ : _ ≤ maxLen) => ?_; conv => whnf)
    | (refine get_nat0 (by omega) ?_; conv => whnf)
    | (refine get_int0 (by omega) ?_; conv => whnf)
    | (refine get_nat (by omega) ?_; conv => whnf)
    | (refine get_int (by omega) ?_; conv => whnf)
    | (refine aGet_in rfl ?_; conv => whnf)
    | (refine And.intro (And.intro (Int.le_refl _) (And.intro (by kernel_rfl) (And.intro rfl (by kernel_rfl)))) (And.intro (And.intro (by omega) (And.intro (bytes_le (b := 8) rfl (by omega)) (by omega))) ?_); conv => whnf)
    | (refine And.intro (by omega) ?_; conv => whnf)
    | (refine load_same ?_; conv => whnf)
    | (refine And.intro (by rw [List.length_map]; omega) ?_; conv => whnf)
    | (refine And.intro rfl (And.intro (List.cons_ne_nil _ _) ?_); conv => whnf)
    | (refine And.intro (Nat.le_of_ble_eq_true rfl) ?_; conv => whnf)
    | (refine mark_call rfl (by rfl) (by omega) ?_; conv => whnf)
    | (refine callG_t ?_; conv => whnf)
    | (refine And.intro (And.intro (Int.le_refl _) (And.intro (by kernel_rfl) (And.intro rfl (by kernel_rfl)))) (And.intro (And.intro (by omega) (And.intro (bytes_le (b := 24) rfl (by omega)) (by omega))) ?_); conv => whnf)
    | (refine And.intro (And.intro (Int.le_refl _) (And.intro (by kernel_rfl) (And.intro rfl (by kernel_rfl)))) (And.intro (And.intro (by omega) (And.intro (bytes_le (b := 48) rfl (by omega)) (by omega))) ?_); conv => whnf)
    | (refine takeN_in ?_; conv => whnf)
    | (refine And.intro (pureL_ints _ _) ?_; conv => whnf)
    | (refine And.intro (pureL_take _ _ _) ?_; conv => whnf)
    | (refine And.intro (pureL_cut _ _ _ _) ?_; conv => whnf)
    | (refine cut_ints ?_; conv => whnf)
    | (refine cut_marks ?_; conv => whnf)
    | (refine cut_all rfl (scalL_ints _ _) ?_; conv => whnf)
    | (refine cut_all (by simp only [List.length_map]; omega) (scalL_ints _ _) ?_; conv => whnf)
    | (refine And.intro rfl (And.intro rfl (And.intro (by first | omega | (rw [List.length_map]; omega)) ?_)); conv => whnf)
    | (refine set_nat ?_ (by omega); conv => whnf)
    | (refine set_int ?_ (by omega); conv => whnf)
    | (refine set_bool ?_ (by omega); conv => whnf)
    | (refine set_force ?_; conv => whnf)
    | (refine get_bool0 (by omega) ?_; conv => whnf)
    | (refine And.intro (And.intro (Int.le_refl _) (And.intro (by kernel_rfl) (And.intro rfl (by kernel_rfl)))) (And.intro (And.intro (by omega) (And.intro (bytes_le (b := 1) rfl (by omega)) (by omega))) ?_); conv => whnf)
    | (refine And.intro (And.intro (by kernel_rfl) (And.intro rfl (Nat.le_of_ble_eq_true rfl))) ?_; conv => whnf)
    | (refine And.intro (And.intro (by kernel_rfl) (by kernel_rfl)) ?_; conv => whnf)
    | (refine And.intro (by kernel_rfl) ?_; conv => whnf)
    | (refine aIf_tt (by assumption) ?_; conv => whnf)
    | (refine aIf_ff (by assumption) ?_; conv => whnf)
    | refine aIf_eqt ?_
    | refine aIf_eqf ?_
    | refine aIf_not ?_
    | (refine aIf_bself ?_; conv => whnf)
    | (refine aIf_beself ?_; conv => whnf)
    | (refine aIf_iself ?_; conv => whnf)
    | (refine aIf_decself ?_; conv => whnf)
    | (refine aIf_dec (fun _ => ?_) (fun _ => ?_) <;> conv => whnf)
    | (refine aIf_beq (fun _ => ?_) (fun _ => ?_) <;> conv => whnf)
    | (refine aIf_bne (fun _ => ?_) (fun _ => ?_) <;> conv => whnf)
    | (refine aIf_bbne (fun _ => ?_) (fun _ => ?_) <;> conv => whnf)
    | (refine aIf_bbeq (fun _ => ?_) (fun _ => ?_) <;> conv => whnf)
    | (refine aIf_in (fun _ => ?_) (fun _ => ?_) <;> conv => whnf))
  exact retMT (xs := xs) (zs := zs) rfl
theorem markTensor_call {xs zs : List Int} {m : Int} {env : List AV} {rows : List Row} {ctr low τ1 τ2 v1 v2 n1 n2 : Nat} {k : AV → St → Prop} (h1 : rows[τ1]? = some ⟨v1, 3, 1, xs.map (.int .i64)⟩) (h2 : rows[τ2]? = some ⟨v2, 3, 1, zs.map (.int .i64)⟩) (hne : τ1 ≠ τ2) (e1 : n1 = xs.length) (e2 : n2 = zs.length)
    (hpre : xs.length ≤ 1048576 ∧ zs.length ≤ 1048576 ∧ 0 ≤ m ∧ m ≤ 100000000000)
    (hk : k (.int .i64 (m + xs.length + zs.length)) ⟨env, setRows rows [τ1, τ2] [(marks m xs.length).map (.int .i64), (marks (m + xs.length) zs.length).map (.int .i64)], ctr + 1, low⟩) :
    CallG Try.prog 21 ⟨env, rows, ctr, low⟩ [.agg [.ref τ1 v1 0 n1, .ref τ2 v2 0 n2], .int .i64 m] k := callMT_in markTensor_sound (xs, zs, m) hpre h1 h2 hne e1 e2 rfl hk

/-- What was marked holds its marks. -/
def sHeldT : CSpec := fnS (ι := Nat × Nat × Nat × Nat × Int) (fun | (c, n, d, n', m) => [.agg [.sl c n ((marks m n).map (.int .i64)), .sl d n' ((marks (m + n) n').map (.int .i64))], .int .i64 m]) (fun | (_, n, _, n', m) => n ≤ 1048576 ∧ n' ≤ 1048576 ∧ 0 ≤ m ∧ m ≤ 100000000000) (fun | (_, n, _, n', m) => .int .i64 (m + n + n'))
set_option maxRecDepth 10000 in
theorem heldTensor_sound : Sound Try.prog 22 sHeldT := by
  refine sound_of Try.func22 rfl (enters_of Try.func22 (by kernel_rfl) (by kernel_rfl)) ?_
  rintro ⟨c, n, d, n', m⟩ hpre
  have hpre : n ≤ 1048576 ∧ n' ≤ 1048576 ∧ 0 ≤ m ∧ m ≤ 100000000000 := hpre
  conv => whnf
  repeat' (first
    | (refine aIf_t ?_; conv => whnf)
    | (refine aIf_f ?_; conv => whnf)
    | (refine fun (_ : _ ≤ maxLen) => ?_; conv => whnf)
    | (refine get_nat0 (by omega) ?_; conv => whnf)
    | (refine get_int0 (by omega) ?_; conv => whnf)
    | (refine get_nat (by omega) ?_; conv => whnf)
    | (refine get_int (by omega) ?_; conv => whnf)
    | (refine aGet_in rfl ?_; conv => whnf)
    | (refine And.intro (And.intro (Int.le_refl _) (And.intro (by kernel_rfl) (And.intro rfl (by kernel_rfl)))) (And.intro (And.intro (by omega) (And.intro (bytes_le (b := 8) rfl (by omega)) (by omega))) ?_); conv => whnf)
    | (refine And.intro (by omega) ?_; conv => whnf)
    | (refine load_same ?_; conv => whnf)
    | (refine And.intro (by rw [List.length_map]; omega) ?_; conv => whnf)
    | (refine And.intro rfl (And.intro (List.cons_ne_nil _ _) ?_); conv => whnf)
    | (refine And.intro (Nat.le_of_ble_eq_true rfl) ?_; conv => whnf)
    | (refine callG_t ?_; conv => whnf)
    | (refine And.intro (And.intro (Int.le_refl _) (And.intro (by kernel_rfl) (And.intro rfl (by kernel_rfl)))) (And.intro (And.intro (by omega) (And.intro (bytes_le (b := 24) rfl (by omega)) (by omega))) ?_); conv => whnf)
    | (refine And.intro (And.intro (Int.le_refl _) (And.intro (by kernel_rfl) (And.intro rfl (by kernel_rfl)))) (And.intro (And.intro (by omega) (And.intro (bytes_le (b := 48) rfl (by omega)) (by omega))) ?_); conv => whnf)
    | (refine takeN_in ?_; conv => whnf)
    | (refine And.intro (pureL_ints _ _) ?_; conv => whnf)
    | (refine And.intro (pureL_take _ _ _) ?_; conv => whnf)
    | (refine And.intro (pureL_cut _ _ _ _) ?_; conv => whnf)
    | (refine cut_ints ?_; conv => whnf)
    | (refine cut_marks ?_; conv => whnf)
    | (refine cut_all rfl (scalL_ints _ _) ?_; conv => whnf)
    | (refine cut_all (by simp only [List.length_map]; omega) (scalL_ints _ _) ?_; conv => whnf)
    | (refine And.intro rfl (And.intro rfl (And.intro (by first | omega | (rw [List.length_map]; omega)) ?_)); conv => whnf)
    | (refine set_nat ?_ (by omega); conv => whnf)
    | (refine set_int ?_ (by omega); conv => whnf)
    | (refine set_bool ?_ (by omega); conv => whnf)
    | (refine set_force ?_; conv => whnf)
    | (refine get_bool0 (by omega) ?_; conv => whnf)
    | (refine And.intro (And.intro (Int.le_refl _) (And.intro (by kernel_rfl) (And.intro rfl (by kernel_rfl)))) (And.intro (And.intro (by omega) (And.intro (bytes_le (b := 1) rfl (by omega)) (by omega))) ?_); conv => whnf)
    | (refine held_marks_call rfl (by omega) ?_; conv => whnf)
    | (refine And.intro (And.intro (by kernel_rfl) (And.intro rfl (Nat.le_of_ble_eq_true rfl))) ?_; conv => whnf)
    | (refine And.intro (And.intro (by kernel_rfl) (by kernel_rfl)) ?_; conv => whnf)
    | (refine And.intro (by kernel_rfl) ?_; conv => whnf)
    | (refine aIf_tt (by assumption) ?_; conv => whnf)
    | (refine aIf_ff (by assumption) ?_; conv => whnf)
    | refine aIf_eqt ?_
    | refine aIf_eqf ?_
    | refine aIf_not ?_
    | (refine aIf_bself ?_; conv => whnf)
    | (refine aIf_beself ?_; conv => whnf)
    | (refine aIf_iself ?_; conv => whnf)
    | (refine aIf_decself ?_; conv => whnf)
    | (refine aIf_dec (fun _ => ?_) (fun _ => ?_) <;> conv => whnf)
    | (refine aIf_beq (fun _ => ?_) (fun _ => ?_) <;> conv => whnf)
    | (refine aIf_bne (fun _ => ?_) (fun _ => ?_) <;> conv => whnf)
    | (refine aIf_bbne (fun _ => ?_) (fun _ => ?_) <;> conv => whnf)
    | (refine aIf_bbeq (fun _ => ?_) (fun _ => ?_) <;> conv => whnf)
    | (refine aIf_in (fun _ => ?_) (fun _ => ?_) <;> conv => whnf))
  all_goals (first | (exfalso; omega) | skip)
  exact retS rfl rfl
theorem heldTensor_call {c d n n' k1 k2 : Nat} {m : Int} {env : List AV} {rows : List Row} {ctr low : Nat} {k : AV → St → Prop} (e1 : k1 = n) (e2 : k2 = n') (hpre : n ≤ 1048576 ∧ n' ≤ 1048576 ∧ 0 ≤ m ∧ m ≤ 100000000000) (h : k (.int .i64 (m + n + n')) ⟨env, rows, ctr + 1, low⟩) :
    CallB Try.prog 22 ⟨env, rows, ctr, low⟩ [.agg [.sl c k1 ((marks m n).map (.int .i64)), .sl d k2 ((marks (m + n) n').map (.int .i64))], .int .i64 m] k := by
  subst e1; subst e2
  exact callS_in heldTensor_sound (c, k1, d, k2, m) hpre rfl h
end Go.Proofs.Ytegoncendpboiaa
