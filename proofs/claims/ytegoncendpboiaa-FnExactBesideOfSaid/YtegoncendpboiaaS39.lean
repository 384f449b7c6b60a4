/- Chapter 2: BesideOf of the model. -/
import Derived.Test.YtegoncendpboiaaS38
import Derived.Test.YtegoncendpboiaaS20
namespace Go.Proofs.Ytegoncendpboiaa
set_option maxRecDepth 20000
open Go.RowKit Go.Am
attribute [local irreducible] aPlan aGet aIf aLoop aCall RetB NextB CallB CallG aCut aSet aAppend

def bshP (xs ps : List Int) (i : Int) : Prop := xs.length = ps.length ∧ (0 ≤ i ∧ i < xs.length) ∧ wo xs i.toNat = wo ps i.toNat ∧ xs.getD i.toNat 0 + ps.getD i.toNat 0 ≤ 4
instance (xs ps : List Int) (i : Int) : Decidable (bshP xs ps i) := by unfold bshP; infer_instance
def bshL (xs ps : List Int) (i : Int) : List Int := if bshP xs ps i then bsSh xs i.toNat (ps.getD i.toNat 0) else []
theorem bshL_t {xs ps : List Int} {a : Nat} (h : bshP xs ps a) : bshL xs ps a = bsSh xs a (ps.getD a 0) := by unfold bshL; rw [if_pos h, Int.toNat_natCast]
theorem bshL_f {xs ps : List Int} {i : Int} (h : ¬ bshP xs ps i) : bshL xs ps i = [] := if_neg h
def sBShape : CSpec := fnLB (ι := Nat × List Int × Nat × List Int × Int) 3 (fun | (c, xs, d, ps, i) => [.sl c xs.length (xs.map (.int .i64)), .sl d ps.length (ps.map (.int .i64)), .int .i64 i]) (fun | (_, xs, _, ps, _) => shapeOk xs = true ∧ shapeOk ps = true) (fun | (_, xs, _, ps, i) => bshL xs ps i) (fun | (_, xs, _, ps, i) => decide (bshP xs ps i))
theorem retLBM {env : List AV} {rows : List Row} {ctr τ ver n : Nat} {t : TypeId} {zs L : List Int} {b B : Bool} (h1 : L = zs) (h2 : B = b) (hr : rows[τ]? = some ⟨ver, t, 1, zs.map (.int .i64)⟩) (hn : n = zs.length) :
    RetB ⟨env, rows, ctr, 0⟩ [] (fun r ic news => r = .tup [.ref 0 0 0 L.length, .bool B] ∧ ic = [] ∧ news = [⟨0, t, 1, L.map (.int .i64)⟩]) (.tup [.ref τ ver 0 n, .bool b]) := by
  subst h1; subst h2; exact retLB hr rfl rfl hn rfl
set_option maxHeartbeats 4000000 in
theorem l2BesideShape_sound : Sound Try.prog 73 sBShape := by
  refine sound_of Try.func73 rfl (enters_of Try.func73 (by kernel_rfl) (by kernel_rfl)) ?_
  rintro ⟨c, xs, d, ps, i⟩ hpre
  have hpre : shapeOk xs = true ∧ shapeOk ps = true := hpre
  obtain ⟨hx, hp⟩ := hpre
  have h3 := ((shapeOk_iff _).1 hx).1
  have h3' := ((shapeOk_iff _).1 hp).1
  have hmax : maxLen = 9223372036854775807 := rfl
  have hw1 : IntKind.i64.wrap ((xs.length : Int) - 1) = xs.length - 1 := IntWalk.i64_in _ (by omega)
  by_cases hl : xs.length = ps.length
  · by_cases hi : 0 ≤ i ∧ i < xs.length
    · obtain ⟨a, rfl⟩ : ∃ a : Nat, i = a := ⟨i.toNat, by omega⟩
      have hs1 := size_in hx (show a < xs.length by omega)
      have hs2 := size_in hp (show a < ps.length by omega)
      have hw : IntKind.i64.wrap (xs.getD a 0 + ps.getD a 0) = xs.getD a 0 + ps.getD a 0 := IntWalk.i64_in _ (by omega)
      by_cases he : wo xs a = wo ps a
      · by_cases hle : xs.getD a 0 + ps.getD a 0 ≤ 4
        · have hP : bshP xs ps (a : Int) := ⟨hl, hi, by rw [Int.toNat_natCast]; exact he, by rw [Int.toNat_natCast]; exact hle⟩
          conv => whnf
          repeat' (first
            | (refine plan_in (id := 1) [0, 1, 2, 3, 4, 5, 6, 7, 8, 9, 10, 11, 12, 13, 14, 15, 17, 18, 16, 19, 20, 21, 22, 23, 24, 25, 26, 27, 28, 29, 30, 31, 32, 33, 34] (by kernel_rfl) (by kernel_rfl) ?_; conv => whnf)
            | (refine plan_in (id := 4) [0, 1, 2, 3, 4, 5, 6, 7, 8, 9, 10, 11, 12] (by kernel_rfl) (by kernel_rfl) ?_; conv => whnf)
            | (refine aIf_t ?_; conv => whnf)
            | (refine aIf_f ?_; conv => whnf)
            | (refine fun (_ : _ ≤ maxLen) => ?_; conv => whnf)
            | (refine get_nat0 (by omega) ?_; conv => whnf)
            | (refine get_int0 (by omega) ?_; conv => whnf)
            | (refine get_nat (by omega) ?_; conv => whnf)
            | (refine get_int (by omega) ?_; conv => whnf)
            | (refine aGet_in rfl ?_; conv => whnf)
            | (refine And.intro (And.intro (Int.le_refl _) (And.intro (by kernel_rfl) (And.intro rfl (by kernel_rfl)))) (And.intro (And.intro (by omega) (And.intro (bytes_le (b := 8) rfl (by omega)) (by omega))) ?_); conv => whnf)
            | (refine And.intro (by omega) ?_; conv => whnf)
            | (refine load_same ?_; conv => whnf)
            | (refine And.intro (by rw [List.length_map]; omega) ?_; conv => whnf)
            | (refine And.intro rfl (And.intro (List.cons_ne_nil _ _) ?_); conv => whnf)
            | (refine And.intro (Nat.le_of_ble_eq_true rfl) ?_; conv => whnf)
            | (refine callG_t ?_; conv => whnf)
            | (refine l2Without_call (by omega) ?_; conv => whnf)
            | (refine l2Nums_call (by omega) ?_; conv => whnf)
            | (refine And.intro (And.intro (Int.le_refl _) (And.intro (by kernel_rfl) (And.intro rfl (by kernel_rfl)))) (And.intro (And.intro (by omega) (And.intro (bytes_le (b := 24) rfl (by omega)) (by omega))) ?_); conv => whnf)
            | (refine And.intro (And.intro (Int.le_refl _) (And.intro (by kernel_rfl) (And.intro rfl (by kernel_rfl)))) (And.intro (And.intro (by omega) (And.intro (bytes_le (b := 48) rfl (by omega)) (by omega))) ?_); conv => whnf)
            | (refine And.intro rfl (And.intro rfl (And.intro (by rw [fillC_length (by omega)]; omega) ?_)); conv => whnf)
            | (refine And.intro rfl (And.intro rfl (And.intro (by rw [fillF_length (ndO_length _) rfl (by omega)]; omega) ?_)); conv => whnf)
            | (refine And.intro rfl (And.intro rfl (And.intro (by rw [fillF_length (tnO_length _) rfl (by omega)]; omega) ?_)); conv => whnf)
            | (refine set_fillC (by omega) (by omega) ?_; conv => whnf)
            | (refine set_fillF (ndO_length _) (by omega) rfl ?_; conv => whnf)
            | (refine set_fillF (tnO_length _) (by omega) rfl ?_; conv => whnf)
            | (refine And.intro (ond_fit (by omega) (Nat.le_of_ble_eq_true rfl)) ?_; conv => whnf)
            | (refine set_ond (by omega) (Nat.le_of_ble_eq_true rfl) ⟨_, rfl⟩ (fun _ _ _ _ => ?_); conv => whnf)
            | (refine get_oi_n (by omega) ?_; conv => whnf)
            | (refine get_ond_n (by omega) rfl ?_; conv => whnf)
            | (refine get_otn_n (by omega) rfl ?_; conv => whnf)
            | (refine takeN_in ?_; conv => whnf)
            | (refine And.intro (pureL_ints _ _) ?_; conv => whnf)
            | (refine And.intro (pureL_take _ _ _) ?_; conv => whnf)
            | (refine And.intro (pureL_cut _ _ _ _) ?_; conv => whnf)
            | (refine cut_ints ?_; conv => whnf)
            | (refine cut_marks ?_; conv => whnf)
            | (refine cut_all rfl (scalL_ints _ _) ?_; conv => whnf)
            | (refine cut_all (by simp only [List.length_map]; omega) (scalL_ints _ _) ?_; conv => whnf)
            | (refine in_call ?_; conv => whnf)
            | (refine append_int rfl rfl (by first | rfl | (simp only [List.length_take, turned_length]; omega)) (by omega) (Nat.le_of_ble_eq_true rfl) ?_; conv => whnf)
            | (refine l1Same_call ?_; conv => whnf)
            | (refine And.intro rfl (And.intro rfl (And.intro (by first | omega | (rw [List.length_map]; omega)) ?_)); conv => whnf)
            | (refine set_nat ?_ (by omega); conv => whnf)
            | (refine set_int ?_ (by omega); conv => whnf)
            | (refine set_bool ?_ (by omega); conv => whnf)
            | (refine set_force ?_; conv => whnf)
            | (refine get_bool0 (by omega) ?_; conv => whnf)
            | (refine And.intro (And.intro (Int.le_refl _) (And.intro (by kernel_rfl) (And.intro rfl (by kernel_rfl)))) (And.intro (And.intro (by omega) (And.intro (bytes_le (b := 1) rfl (by omega)) (by omega))) ?_); conv => whnf)
            | (refine And.intro (And.intro (by kernel_rfl) (And.intro rfl (Nat.le_of_ble_eq_true rfl))) ?_; conv => whnf)
            | (refine And.intro (And.intro (by kernel_rfl) (by kernel_rfl)) ?_; conv => whnf)
            | (refine And.intro (by kernel_rfl) ?_; conv => whnf)
            | (refine aIf_tt (by assumption) ?_; conv => whnf)
            | (refine aIf_ff (by assumption) ?_; conv => whnf)
            | refine aIf_eqt ?_
            | refine aIf_eqf ?_
            | refine aIf_not ?_
            | (refine aIf_bself ?_; conv => whnf)
            | (refine aIf_beself ?_; conv => whnf)
            | (refine aIf_iself ?_; conv => whnf)
            | (refine aIf_decself ?_; conv => whnf)
            | (refine aIf_dec (fun _ => ?_) (fun _ => ?_) <;> conv => whnf)
            | (refine aIf_beq (fun _ => ?_) (fun _ => ?_) <;> conv => whnf)
            | (refine aIf_bne (fun _ => ?_) (fun _ => ?_) <;> conv => whnf)
            | (refine aIf_bbne (fun _ => ?_) (fun _ => ?_) <;> conv => whnf)
            | (refine aIf_bbeq (fun _ => ?_) (fun _ => ?_) <;> conv => whnf)
            | (refine aIf_in (fun _ => ?_) (fun _ => ?_) <;> conv => whnf))
          all_goals (first | (exfalso; omega) | (exfalso; exact absurd he (by assumption)) | skip)
          have hL : bshL xs ps (a : Int) = xs.set a (IntKind.i64.wrap (xs.getD a 0 + ps.getD a 0)) := by rw [bshL_t hP, hw]; rfl
          exact retLBM hL (decide_eq_true hP) rfl (by simp)
        · have hP : ¬ bshP xs ps (a : Int) := fun h => hle (by have := h.2.2.2; rwa [Int.toNat_natCast] at this)
          conv => whnf
          repeat' (first
            | (refine plan_in (id := 1) [0, 1, 2, 3, 4, 5, 6, 7, 8, 9, 10, 11, 12, 13, 14, 15, 17, 18, 16, 19, 20, 21, 22, 23, 24, 25, 26, 27, 28, 29, 30, 31, 32, 33, 34] (by kernel_rfl) (by kernel_rfl) ?_; conv => whnf)
            | (refine plan_in (id := 4) [0, 1, 2, 3, 4, 5, 6, 7, 8, 9, 10, 11, 12] (by kernel_rfl) (by kernel_rfl) ?_; conv => whnf)
            | (refine aIf_t ?_; conv => whnf)
            | (refine aIf_f ?_; conv => whnf)
            | (refine fun (_ : _ ≤ maxLen) => ?_; conv => whnf)
            | (refine get_nat0 (by omega) ?_; conv => whnf)
            | (refine get_int0 (by omega) ?_; conv => whnf)
            | (refine get_nat (by omega) ?_; conv => whnf)
            | (refine get_int (by omega) ?_; conv => whnf)
            | (refine aGet_in rfl ?_; conv => whnf)
            | (refine And.intro (And.intro (Int.le_refl _) (And.intro (by kernel_rfl) (And.intro rfl (by kernel_rfl)))) (And.intro (And.intro (by omega) (And.intro (bytes_le (b := 8) rfl (by omega)) (by omega))) ?_); conv => whnf)
            | (refine And.intro (by omega) ?_; conv => whnf)
            | (refine load_same ?_; conv => whnf)
            | (refine And.intro (by rw [List.length_map]; omega) ?_; conv => whnf)
            | (refine And.intro rfl (And.intro (List.cons_ne_nil _ _) ?_); conv => whnf)
            | (refine And.intro (Nat.le_of_ble_eq_true rfl) ?_; conv => whnf)
            | (refine callG_t ?_; conv => whnf)
            | (refine l2Without_call (by omega) ?_; conv => whnf)
            | (refine l2Nums_call (by omega) ?_; conv => whnf)
            | (refine And.intro (And.intro (Int.le_refl _) (And.intro (by kernel_rfl) (And.intro rfl (by kernel_rfl)))) (And.intro (And.intro (by omega) (And.intro (bytes_le (b := 24) rfl (by omega)) (by omega))) ?_); conv => whnf)
            | (refine And.intro (And.intro (Int.le_refl _) (And.intro (by kernel_rfl) (And.intro rfl (by kernel_rfl)))) (And.intro (And.intro (by omega) (And.intro (bytes_le (b := 48) rfl (by omega)) (by omega))) ?_); conv => whnf)
            | (refine And.intro rfl (And.intro rfl (And.intro (by rw [fillC_length (by omega)]; omega) ?_)); conv => whnf)
            | (refine And.intro rfl (And.intro rfl (And.intro (by rw [fillF_length (ndO_length _) rfl (by omega)]; omega) ?_)); conv => whnf)
            | (refine And.intro rfl (And.intro rfl (And.intro (by rw [fillF_length (tnO_length _) rfl (by omega)]; omega) ?_)); conv => whnf)
            | (refine set_fillC (by omega) (by omega) ?_; conv => whnf)
            | (refine set_fillF (ndO_length _) (by omega) rfl ?_; conv => whnf)
            | (refine set_fillF (tnO_length _) (by omega) rfl ?_; conv => whnf)
            | (refine And.intro (ond_fit (by omega) (Nat.le_of_ble_eq_true rfl)) ?_; conv => whnf)
            | (refine set_ond (by omega) (Nat.le_of_ble_eq_true rfl) ⟨_, rfl⟩ (fun _ _ _ _ => ?_); conv => whnf)
            | (refine get_oi_n (by omega) ?_; conv => whnf)
            | (refine get_ond_n (by omega) rfl ?_; conv => whnf)
            | (refine get_otn_n (by omega) rfl ?_; conv => whnf)
            | (refine takeN_in ?_; conv => whnf)
            | (refine And.intro (pureL_ints _ _) ?_; conv => whnf)
            | (refine And.intro (pureL_take _ _ _) ?_; conv => whnf)
            | (refine And.intro (pureL_cut _ _ _ _) ?_; conv => whnf)
            | (refine cut_ints ?_; conv => whnf)
            | (refine cut_marks ?_; conv => whnf)
            | (refine cut_all rfl (scalL_ints _ _) ?_; conv => whnf)
            | (refine cut_all (by simp only [List.length_map]; omega) (scalL_ints _ _) ?_; conv => whnf)
            | (refine in_call ?_; conv => whnf)
            | (refine append_int rfl rfl (by first | rfl | (simp only [List.length_take, turned_length]; omega)) (by omega) (Nat.le_of_ble_eq_true rfl) ?_; conv => whnf)
            | (refine l1Same_call ?_; conv => whnf)
            | (refine And.intro rfl (And.intro rfl (And.intro (by first | omega | (rw [List.length_map]; omega)) ?_)); conv => whnf)
            | (refine set_nat ?_ (by omega); conv => whnf)
            | (refine set_int ?_ (by omega); conv => whnf)
            | (refine set_bool ?_ (by omega); conv => whnf)
            | (refine set_force ?_; conv => whnf)
            | (refine get_bool0 (by omega) ?_; conv => whnf)
            | (refine And.intro (And.intro (Int.le_refl _) (And.intro (by kernel_rfl) (And.intro rfl (by kernel_rfl)))) (And.intro (And.intro (by omega) (And.intro (bytes_le (b := 1) rfl (by omega)) (by omega))) ?_); conv => whnf)
            | (refine And.intro (And.intro (by kernel_rfl) (And.intro rfl (Nat.le_of_ble_eq_true rfl))) ?_; conv => whnf)
            | (refine And.intro (And.intro (by kernel_rfl) (by kernel_rfl)) ?_; conv => whnf)
            | (refine And.intro (by kernel_rfl) ?_; conv => whnf)
            | (refine aIf_tt (by assumption) ?_; conv => whnf)
            | (refine aIf_ff (by assumption) ?_; conv => whnf)
            | refine aIf_eqt ?_
            | refine aIf_eqf ?_
            | refine aIf_not ?_
            | (refine aIf_bself ?_; conv => whnf)
            | (refine aIf_beself ?_; conv => whnf)
            | (refine aIf_iself ?_; conv => whnf)
            | (refine aIf_decself ?_; conv => whnf)
            | (refine aIf_dec (fun _ => ?_) (fun _ => ?_) <;> conv => whnf)
            | (refine aIf_beq (fun _ => ?_) (fun _ => ?_) <;> conv => whnf)
            | (refine aIf_bne (fun _ => ?_) (fun _ => ?_) <;> conv => whnf)
            | (refine aIf_bbne (fun _ => ?_) (fun _ => ?_) <;> conv => whnf)
            | (refine aIf_bbeq (fun _ => ?_) (fun _ => ?_) <;> conv => whnf)
            | (refine aIf_in (fun _ => ?_) (fun _ => ?_) <;> conv => whnf))
          all_goals (first | (exfalso; omega) | (exfalso; exact absurd he (by assumption)) | skip)
          exact retLBM (bshL_f hP) (decide_eq_false hP) rfl rfl
      · have hP : ¬ bshP xs ps (a : Int) := fun h => he (by have := h.2.2.1; rwa [Int.toNat_natCast] at this)
        conv => whnf
        repeat' (first
          | (refine plan_in (id := 1) [0, 1, 2, 3, 4, 5, 6, 7, 8, 9, 10, 11, 12, 13, 14, 15, 17, 18, 16, 19, 20, 21, 22, 23, 24, 25, 26, 27, 28, 29, 30, 31, 32, 33, 34] (by kernel_rfl) (by kernel_rfl) ?_; conv => whnf)
          | (refine plan_in (id := 4) [0, 1, 2, 3, 4, 5, 6, 7, 8, 9, 10, 11, 12] (by kernel_rfl) (by kernel_rfl) ?_; conv => whnf)
          | (refine aIf_t ?_; conv => whnf)
          | (refine aIf_f ?_; conv => whnf)
          | (refine fun (_ : _ ≤ maxLen) => ?_; conv => whnf)
          | (refine get_nat0 (by omega) ?_; conv => whnf)
          | (refine get_int0 (by omega) ?_; conv => whnf)
          | (refine get_nat (by omega) ?_; conv => whnf)
          | (refine get_int (by omega) ?_; conv => whnf)
          | (refine aGet_in rfl ?_; conv => whnf)
          | (refine And.intro (And.intro (Int.le_refl _) (And.intro (by kernel_rfl) (And.intro rfl (by kernel_rfl)))) (And.intro (And.intro (by omega) (And.intro (bytes_le (b := 8) rfl (by omega)) (by omega))) ?_); conv => whnf)
          | (refine And.intro (by omega) ?_; conv => whnf)
          | (refine load_same ?_; conv => whnf)
          | (refine And.intro (by rw [List.length_map]; omega) ?_; conv => whnf)
          | (refine And.intro rfl (And.intro (List.cons_ne_nil _ _) ?_); conv => whnf)
          | (refine And.intro (Nat.le_of_ble_eq_true rfl) ?_; conv => whnf)
          | (refine callG_t ?_; conv => whnf)
          | (refine l2Without_call (by omega) ?_; conv => whnf)
          | (refine l2Nums_call (by omega) ?_; conv => whnf)
          | (refine And.intro (And.intro (Int.le_refl _) (And.intro (by kernel_rfl) (And.intro rfl (by kernel_rfl)))) (And.intro (And.intro (by omega) (And.intro (bytes_le (b := 24) rfl (by omega)) (by omega))) ?_); conv => whnf)
          | (refine And.intro (And.intro (Int.le_refl _) (And.intro (by kernel_rfl) (And.intro rfl (by kernel_rfl)))) (And.intro (And.intro (by omega) (And.intro (bytes_le (b := 48) rfl (by omega)) (by omega))) ?_); conv => whnf)
          | (refine And.intro rfl (And.intro rfl (And.intro (by rw [fillC_length (by omega)]; omega) ?_)); conv => whnf)
          | (refine And.intro rfl (And.intro rfl (And.intro (by rw [fillF_length (ndO_length _) rfl (by omega)]; omega) ?_)); conv => whnf)
          | (refine And.intro rfl (And.intro rfl (And.intro (by rw [fillF_length (tnO_length _) rfl (by omega)]; omega) ?_)); conv => whnf)
          | (refine set_fillC (by omega) (by omega) ?_; conv => whnf)
          | (refine set_fillF (ndO_length _) (by omega) rfl ?_; conv => whnf)
          | (refine set_fillF (tnO_length _) (by omega) rfl ?_; conv => whnf)
          | (refine And.intro (ond_fit (by omega) (Nat.le_of_ble_eq_true rfl)) ?_; conv => whnf)
          | (refine set_ond (by omega) (Nat.le_of_ble_eq_true rfl) ⟨_, rfl⟩ (fun _ _ _ _ => ?_); conv => whnf)
          | (refine get_oi_n (by omega) ?_; conv => whnf)
          | (refine get_ond_n (by omega) rfl ?_; conv => whnf)
          | (refine get_otn_n (by omega) rfl ?_; conv => whnf)
          | (refine takeN_in ?_; conv => whnf)
          | (refine And.intro (pureL_ints _ _) ?_; conv => whnf)
          | (refine And.intro (pureL_take _ _ _) ?_; conv => whnf)
          | (refine And.intro (pureL_cut _ _ _ _) ?_; conv => whnf)
          | (refine cut_ints ?_; conv => whnf)
          | (refine cut_marks ?_; conv => whnf)
          | (refine cut_all rfl (scalL_ints _ _) ?_; conv => whnf)
          | (refine cut_all (by simp only [List.length_map]; omega) (scalL_ints _ _) ?_; conv => whnf)
          | (refine in_call ?_; conv => whnf)
          | (refine append_int rfl rfl (by first | rfl | (simp only [List.length_take, turned_length]; omega)) (by omega) (Nat.le_of_ble_eq_true rfl) ?_; conv => whnf)
          | (refine l1Same_call ?_; conv => whnf)
          | (refine And.intro rfl (And.intro rfl (And.intro (by first | omega | (rw [List.length_map]; omega)) ?_)); conv => whnf)
          | (refine set_nat ?_ (by omega); conv => whnf)
          | (refine set_int ?_ (by omega); conv => whnf)
          | (refine set_bool ?_ (by omega); conv => whnf)
          | (refine set_force ?_; conv => whnf)
          | (refine get_bool0 (by omega) ?_; conv => whnf)
          | (refine And.intro (And.intro (Int.le_refl _) (And.intro (by kernel_rfl) (And.intro rfl (by kernel_rfl)))) (And.intro (And.intro (by omega) (And.intro (bytes_le (b := 1) rfl (by omega)) (by omega))) ?_); conv => whnf)
          | (refine And.intro (And.intro (by kernel_rfl) (And.intro rfl (Nat.le_of_ble_eq_true rfl))) ?_; conv => whnf)
          | (refine And.intro (And.intro (by kernel_rfl) (by kernel_rfl)) ?_; conv => whnf)
          | (refine And.intro (by kernel_rfl) ?_; conv => whnf)
          | (refine aIf_tt (by assumption) ?_; conv => whnf)
          | (refine aIf_ff (by assumption) ?_; conv => whnf)
          | refine aIf_eqt ?_
          | refine aIf_eqf ?_
          | refine aIf_not ?_
          | (refine aIf_bself ?_; conv => whnf)
          | (refine aIf_beself ?_; conv => whnf)
          | (refine aIf_iself ?_; conv => whnf)
          | (refine aIf_decself ?_; conv => whnf)
          | (refine aIf_dec (fun _ => ?_) (fun _ => ?_) <;> conv => whnf)
          | (refine aIf_beq (fun _ => ?_) (fun _ => ?_) <;> conv => whnf)
          | (refine aIf_bne (fun _ => ?_) (fun _ => ?_) <;> conv => whnf)
          | (refine aIf_bbne (fun _ => ?_) (fun _ => ?_) <;> conv => whnf)
          | (refine aIf_bbeq (fun _ => ?_) (fun _ => ?_) <;> conv => whnf)
          | (refine aIf_in (fun _ => ?_) (fun _ => ?_) <;> conv => whnf))
        all_goals (first | (exfalso; omega) | (exfalso; exact absurd (by assumption) he) | skip)
        exact retLBM (bshL_f hP) (decide_eq_false hP) rfl rfl
    · have hP : ¬ bshP xs ps i := fun h => hi h.2.1
      conv => whnf
      repeat' (first
        | (refine plan_in (id := 1) [0, 1, 2, 3, 4, 5, 6, 7, 8, 9, 10, 11, 12, 13, 14, 15, 17, 18, 16, 19, 20, 21, 22, 23, 24, 25, 26, 27, 28, 29, 30, 31, 32, 33, 34] (by kernel_rfl) (by kernel_rfl) ?_; conv => whnf)
        | (refine plan_in (id := 4) [0, 1, 2, 3, 4, 5, 6, 7, 8, 9, 10, 11, 12] (by kernel_rfl) (by kernel_rfl) ?_; conv => whnf)
        | (refine aIf_t ?_; conv => whnf)
        | (refine aIf_f ?_; conv => whnf)
        | (refine fun (_ : _ ≤ maxLen) => ?_; conv => whnf)
        | (refine get_nat0 (by omega) ?_; conv => whnf)
        | (refine get_int0 (by omega) ?_; conv => whnf)
        | (refine get_nat (by omega) ?_; conv => whnf)
        | (refine get_int (by omega) ?_; conv => whnf)
        | (refine aGet_in rfl ?_; conv => whnf)
        | (refine And.intro (And.intro (Int.le_refl _) (And.intro (by kernel_rfl) (And.intro rfl (by kernel_rfl)))) (And.intro (And.intro (by omega) (And.intro (bytes_le (b := 8) rfl (by omega)) (by omega))) ?_); conv => whnf)
        | (refine And.intro (by omega) ?_; conv => whnf)
        | (refine load_same ?_; conv => whnf)
        | (refine And.intro (by rw [List.length_map]; omega) ?_; conv => whnf)
        | (refine And.intro rfl (And.intro (List.cons_ne_nil _ _) ?_); conv => whnf)
        | (refine And.intro (Nat.le_of_ble_eq_true rfl) ?_; conv => whnf)
        | (refine callG_t ?_; conv => whnf)
        | (refine l2Without_call (by omega) ?_; conv => whnf)
        | (refine l2Nums_call (by omega) ?_; conv => whnf)
        | (refine And.intro (And.intro (Int.le_refl _) (And.intro (by kernel_rfl) (And.intro rfl (by kernel_rfl)))) (And.intro (And.intro (by omega) (And.intro (bytes_le (b := 24) rfl (by omega)) (by omega))) ?_); conv => whnf)
        | (refine And.intro (And.intro (Int.le_refl _) (And.intro (by kernel_rfl) (And.intro rfl (by kernel_rfl)))) (And.intro (And.intro (by omega) (And.intro (bytes_le (b := 48) rfl (by omega)) (by omega))) ?_); conv => whnf)
        | (refine And.intro rfl (And.intro rfl (And.intro (by rw [fillC_length (by omega)]; omega) ?_)); conv => whnf)
        | (refine And.intro rfl (And.intro rfl (And.intro (by rw [fillF_length (ndO_length _) rfl (by omega)]; omega) ?_)); conv => whnf)
        | (refine And.intro rfl (And.intro rfl (And.intro (by rw [fillF_length (tnO_length _) rfl (by omega)]; omega) ?_)); conv => whnf)
        | (refine set_fillC (by omega) (by omega) ?_; conv => whnf)
        | (refine set_fillF (ndO_length _) (by omega) rfl ?_; conv => whnf)
        | (refine set_fillF (tnO_length _) (by omega) rfl ?_; conv => whnf)
        | (refine And.intro (ond_fit (by omega) (Nat.le_of_ble_eq_true rfl)) ?_; conv => whnf)
        | (refine set_ond (by omega) (Nat.le_of_ble_eq_true rfl) ⟨_, rfl⟩ (fun _ _ _ _ => ?_); conv => whnf)
        | (refine get_oi_n (by omega) ?_; conv => whnf)
        | (refine get_ond_n (by omega) rfl ?_; conv => whnf)
        | (refine get_otn_n (by omega) rfl ?_; conv => whnf)
        | (refine takeN_in ?_; conv => whnf)
        | (refine And.intro (pureL_ints _ _) ?_; conv => whnf)
        | (refine And.intro (pureL_take _ _ _) ?_; conv => whnf)
        | (refine And.intro (pureL_cut _ _ _ _) ?_; conv => whnf)
        | (refine cut_ints ?_; conv => whnf)
        | (refine cut_marks ?_; conv => whnf)
        | (refine cut_all rfl (scalL_ints _ _) ?_; conv => whnf)
        | (refine cut_all (by simp only [List.length_map]; omega) (scalL_ints _ _) ?_; conv => whnf)
        | (refine in_call ?_; conv => whnf)
        | (refine append_int rfl rfl (by first | rfl | (simp only [List.length_take, turned_length]; omega)) (by omega) (Nat.le_of_ble_eq_true rfl) ?_; conv => whnf)
        | (refine l1Same_call ?_; conv => whnf)
        | (refine And.intro rfl (And.intro rfl (And.intro (by first | omega | (rw [List.length_map]; omega)) ?_)); conv => whnf)
        | (refine set_nat ?_ (by omega); conv => whnf)
        | (refine set_int ?_ (by omega); conv => whnf)
        | (refine set_bool ?_ (by omega); conv => whnf)
        | (refine set_force ?_; conv => whnf)
        | (refine get_bool0 (by omega) ?_; conv => whnf)
        | (refine And.intro (And.intro (Int.le_refl _) (And.intro (by kernel_rfl) (And.intro rfl (by kernel_rfl)))) (And.intro (And.intro (by omega) (And.intro (bytes_le (b := 1) rfl (by omega)) (by omega))) ?_); conv => whnf)
        | (refine And.intro (And.intro (by kernel_rfl) (And.intro rfl (Nat.le_of_ble_eq_true rfl))) ?_; conv => whnf)
        | (refine And.intro (And.intro (by kernel_rfl) (by kernel_rfl)) ?_; conv => whnf)
        | (refine And.intro (by kernel_rfl) ?_; conv => whnf)
        | (refine aIf_tt (by assumption) ?_; conv => whnf)
        | (refine aIf_ff (by assumption) ?_; conv => whnf)
        | refine aIf_eqt ?_
        | refine aIf_eqf ?_
        | refine aIf_not ?_
        | (refine aIf_bself ?_; conv => whnf)
        | (refine aIf_beself ?_; conv => whnf)
        | (refine aIf_iself ?_; conv => whnf)
        | (refine aIf_decself ?_; conv => whnf)
        | (refine aIf_dec (fun _ => ?_) (fun _ => ?_) <;> conv => whnf)
        | (refine aIf_beq (fun _ => ?_) (fun _ => ?_) <;> conv => whnf)
        | (refine aIf_bne (fun _ => ?_) (fun _ => ?_) <;> conv => whnf)
        | (refine aIf_bbne (fun _ => ?_) (fun _ => ?_) <;> conv => whnf)
        | (refine aIf_bbeq (fun _ => ?_) (fun _ => ?_) <;> conv => whnf)
        | (refine aIf_in (fun _ => ?_) (fun _ => ?_) <;> conv => whnf))
      all_goals (first | (exfalso; omega) | skip)
      exact retLBM (bshL_f hP) (decide_eq_false hP) rfl rfl
  · have hP : ¬ bshP xs ps i := fun h => hl h.1
    conv => whnf
    repeat' (first
      | (refine plan_in (id := 1) [0, 1, 2, 3, 4, 5, 6, 7, 8, 9, 10, 11, 12, 13, 14, 15, 17, 18, 16, 19, 20, 21, 22, 23, 24, 25, 26, 27, 28, 29, 30, 31, 32, 33, 34] (by kernel_rfl) (by kernel_rfl) ?_; conv => whnf)
      | (refine plan_in (id := 4) [0, 1, 2, 3, 4, 5, 6, 7, 8, 9, 10, 11, 12] (by kernel_rfl) (by kernel_rfl) ?_; conv => whnf)
      | (refine aIf_t ?_; conv => whnf)
      | (refine aIf_f ?_; conv => whnf)
      | (refine fun (_ : _ ≤ maxLen) => ?_; conv => whnf)
      | (refine get_nat0 (by omega) ?_; conv => whnf)
      | (refine get_int0 (by omega) ?_; conv => whnf)
      | (refine get_nat (by omega) ?_; conv => whnf)
      | (refine get_int (by omega) ?_; conv => whnf)
      | (refine aGet_in rfl ?_; conv => whnf)
      | (refine And.intro (And.intro (Int.le_refl _) (And.intro (by kernel_rfl) (And.intro rfl (by kernel_rfl)))) (And.intro (And.intro (by omega) (And.intro (bytes_le (b := 8) rfl (by omega)) (by omega))) ?_); conv => whnf)
      | (refine And.intro (by omega) ?_; conv => whnf)
      | (refine load_same ?_; conv => whnf)
      | (refine And.intro (by rw [List.length_map]; omega) ?_; conv => whnf)
      | (refine And.intro rfl (And.intro (List.cons_ne_nil _ _) ?_); conv => whnf)
      | (refine And.intro (Nat.le_of_ble_eq_true rfl) ?_; conv => whnf)
      | (refine callG_t ?_; conv => whnf)
      | (refine l2Without_call (by omega) ?_; conv => whnf)
      | (refine l2Nums_call (by omega) ?_; conv => whnf)
      | (refine And.intro (And.intro (Int.le_refl _) (And.intro (by kernel_rfl) (And.intro rfl (by kernel_rfl)))) (And.intro (And.intro (by omega) (And.intro (bytes_le (b := 24) rfl (by omega)) (by omega))) ?_); conv => whnf)
      | (refine And.intro (And.intro (Int.le_refl _) (And.intro (by kernel_rfl) (And.intro rfl (by kernel_rfl)))) (And.intro (And.intro (by omega) (And.intro (bytes_le (b := 48) rfl (by omega)) (by omega))) ?_); conv => whnf)
      | (refine And.intro rfl (And.intro rfl (And.intro (by rw [fillC_length (by omega)]; omega) ?_)); conv => whnf)
      | (refine And.intro rfl (And.intro rfl (And.intro (by rw [fillF_length (ndO_length _) rfl (by omega)]; omega) ?_)); conv => whnf)
      | (refine And.intro rfl (And.intro rfl (And.intro (by rw [fillF_length (tnO_length _) rfl (by omega)]; omega) ?_)); conv => whnf)
      | (refine set_fillC (by omega) (by omega) ?_; conv => whnf)
      | (refine set_fillF (ndO_length _) (by omega) rfl ?_; conv => whnf)
      | (refine set_fillF (tnO_length _) (by omega) rfl ?_; conv => whnf)
      | (refine And.intro (ond_fit (by omega) (Nat.le_of_ble_eq_true rfl)) ?_; conv => whnf)
      | (refine set_ond (by omega) (Nat.le_of_ble_eq_true rfl) ⟨_, rfl⟩ (fun _ _ _ _ => ?_); conv => whnf)
      | (refine get_oi_n (by omega) ?_; conv => whnf)
      | (refine get_ond_n (by omega) rfl ?_; conv => whnf)
      | (refine get_otn_n (by omega) rfl ?_; conv => whnf)
      | (refine takeN_in ?_; conv => whnf)
      | (refine And.intro (pureL_ints _ _) ?_; conv => whnf)
      | (refine And.intro (pureL_take _ _ _) ?_; conv => whnf)
      | (refine And.intro (pureL_cut _ _ _ _) ?_; conv => whnf)
      | (refine cut_ints ?_; conv => whnf)
      | (refine cut_marks ?_; conv => whnf)
      | (refine cut_all rfl (scalL_ints _ _) ?_; conv => whnf)
      | (refine cut_all (by simp only [List.length_map]; omega) (scalL_ints _ _) ?_; conv => whnf)
      | (refine in_call ?_; conv => whnf)
      | (refine append_int rfl rfl (by first | rfl | (simp only [List.length_take, turned_length]; omega)) (by omega) (Nat.le_of_ble_eq_true rfl) ?_; conv => whnf)
      | (refine l1Same_call ?_; conv => whnf)
      | (refine And.intro rfl (And.intro rfl (And.intro (by first | omega | (rw [List.length_map]; omega)) ?_)); conv => whnf)
      | (refine set_nat ?_ (by omega); conv => whnf)
      | (refine set_int ?_ (by omega); conv => whnf)
      | (refine set_bool ?_ (by omega); conv => whnf)
      | (refine set_force ?_; conv => whnf)
      | (refine get_bool0 (by omega) ?_; conv => whnf)
      | (refine And.intro (And.intro (Int.le_refl _) (And.intro (by kernel_rfl) (And.intro rfl (by kernel_rfl)))) (And.intro (And.intro (by omega) (And.intro (bytes_le (b := 1) rfl (by omega)) (by omega))) ?_); conv => whnf)
      | (refine And.intro (And.intro (by kernel_rfl) (And.intro rfl (Nat.le_of_ble_eq_true rfl))) ?_; conv => whnf)
      | (refine And.intro (And.intro (by kernel_rfl) (by kernel_rfl)) ?_; conv => whnf)
      | (refine And.intro (by kernel_rfl) ?_; conv => whnf)
      | (refine aIf_tt (by assumption) ?_; conv => whnf)
      | (refine aIf_ff (by assumption) ?_; conv => whnf)
      | refine aIf_eqt ?_
      | refine aIf_eqf ?_
      | refine aIf_not ?_
      | (refine aIf_bself ?_; conv => whnf)
      | (refine aIf_beself ?_; conv => whnf)
      | (refine aIf_iself ?_; conv => whnf)
      | (refine aIf_decself ?_; conv => whnf)
      | (refine aIf_dec (fun _ => ?_) (fun _ => ?_) <;> conv => whnf)
      | (refine aIf_beq (fun _ => ?_) (fun _ => ?_) <;> conv => whnf)
      | (refine aIf_bne (fun _ => ?_) (fun _ => ?_) <;> conv => whnf)
      | (refine aIf_bbne (fun _ => ?_) (fun _ => ?_) <;> conv => whnf)
      | (refine aIf_bbeq (fun _ => ?_) (fun _ => ?_) <;> conv => whnf)
      | (refine aIf_in (fun _ => ?_) (fun _ => ?_) <;> conv => whnf))
    all_goals (first | (exfalso; omega) | skip)
    exact retLBM (bshL_f hP) (decide_eq_false hP) rfl rfl
theorem l2BesideShape_call {c d : Nat} {xs ps : List Int} {i : Int} {env : List AV} {rows : List Row} {ctr low : Nat} {k : AV → St → Prop} (hpre : shapeOk xs = true ∧ shapeOk ps = true) (h : k (.tup [.ref rows.length ctr 0 (bshL xs ps i).length, .bool (decide (bshP xs ps i))]) ⟨env, rows ++ [⟨ctr, 3, 1, (bshL xs ps i).map (.int .i64)⟩], ctr + 1, low⟩) :
    CallB Try.prog 73 ⟨env, rows, ctr, low⟩ [.sl c xs.length (xs.map (.int .i64)), .sl d ps.length (ps.map (.int .i64)), .int .i64 i] k := callLB_in l2BesideShape_sound (c, xs, d, ps, i) hpre h
theorem bsRef_t {xs zs ps qs : List Int} {a k : Nat} (h : bsP xs zs ps qs a) (hk : (k : Int) < cntTo (bsSh xs a (ps.getD a 0)) (bsSh xs a (ps.getD a 0)).length) (hlt : (places (bsSh xs a (ps.getD a 0)) k).getD a 0 < xs.getD a 0) :
    (0 ≤ idxTo xs (places (bsSh xs a (ps.getD a 0)) k) xs.length ∧ idxTo xs (places (bsSh xs a (ps.getD a 0)) k) xs.length < zs.length) ∧ bsPick zs qs (bsRef xs a (ps.getD a 0) k) = zs.getD (idxTo xs (places (bsSh xs a (ps.getD a 0)) k) xs.length).toNat 0 := by
  obtain ⟨ht, hu, hi, he, hle⟩ := h
  rw [Int.toNat_natCast] at he hle
  obtain ⟨F, e1, e2, -, -⟩ := bs_all ht hu (by omega) he
  obtain ⟨g1, g2, g3⟩ := F.good hle
  have h3 := g3 k hk
  have t2 := ((tensorOk_iff _ _).1 ht).2.1
  have e : bsRef xs a (ps.getD a 0) k = (true, idxTo xs (places (bsSh xs a (ps.getD a 0)) k) xs.length) := if_pos hlt
  rw [e] at h3 ⊢
  unfold bsIn at h3
  rw [Bool.and_eq_true, decide_eq_true_iff, if_pos rfl, decide_eq_true_iff] at h3
  exact ⟨⟨h3.1, by rw [t2]; exact h3.2⟩, rfl⟩
theorem bsRef_f {xs zs ps qs : List Int} {a k : Nat} (h : bsP xs zs ps qs a) (hk : (k : Int) < cntTo (bsSh xs a (ps.getD a 0)) (bsSh xs a (ps.getD a 0)).length) (hlt : ¬ (places (bsSh xs a (ps.getD a 0)) k).getD a 0 < xs.getD a 0) :
    (0 ≤ idxTo ps ((places (bsSh xs a (ps.getD a 0)) k).set a ((places (bsSh xs a (ps.getD a 0)) k).getD a 0 - xs.getD a 0)) ps.length ∧ idxTo ps ((places (bsSh xs a (ps.getD a 0)) k).set a ((places (bsSh xs a (ps.getD a 0)) k).getD a 0 - xs.getD a 0)) ps.length < qs.length) ∧
      bsPick zs qs (bsRef xs a (ps.getD a 0) k) = qs.getD (idxTo ps ((places (bsSh xs a (ps.getD a 0)) k).set a ((places (bsSh xs a (ps.getD a 0)) k).getD a 0 - xs.getD a 0)) ps.length).toNat 0 := by
  obtain ⟨ht, hu, hi, he, hle⟩ := h
  rw [Int.toNat_natCast] at he hle
  obtain ⟨F, e1, e2, -, -⟩ := bs_all ht hu (by omega) he
  obtain ⟨g1, g2, g3⟩ := F.good hle
  have h3 := g3 k hk
  have u2 := ((tensorOk_iff _ _).1 hu).2.1
  have hl : ps.length = xs.length := by rw [he]; simp
  have e : bsRef xs a (ps.getD a 0) k = (false, idxTo ps ((places (bsSh xs a (ps.getD a 0)) k).set a ((places (bsSh xs a (ps.getD a 0)) k).getD a 0 - xs.getD a 0)) ps.length) := by
    unfold bsRef
    rw [if_neg hlt, ← he, hl]
  rw [e] at h3 ⊢
  unfold bsIn at h3
  rw [Bool.and_eq_true, decide_eq_true_iff, if_neg Bool.false_ne_true, decide_eq_true_iff, ← he] at h3
  exact ⟨⟨h3.1, by rw [u2]; exact h3.2⟩, rfl⟩
def bsTo (xs zs qs : List Int) (a : Nat) (p : Int) (k : Nat) : List Int := (List.range k).map fun i => bsPick zs qs (bsRef xs a p i)
theorem bsTo_succ (xs zs qs : List Int) (a : Nat) (p : Int) (k : Nat) : bsTo xs zs qs a p (k + 1) = bsTo xs zs qs a p k ++ [bsPick zs qs (bsRef xs a p k)] := by unfold bsTo; rw [List.range_succ, List.map_append]; rfl
theorem bsTo_length (xs zs qs : List Int) (a : Nat) (p : Int) (k : Nat) : (bsTo xs zs qs a p k).length = k := by simp [bsTo]
end Go.Proofs.Ytegoncendpboiaa
