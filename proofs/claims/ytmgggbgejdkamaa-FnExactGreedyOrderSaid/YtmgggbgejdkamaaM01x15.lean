import Derived.Test.YtmgggbgejdkamaaM01x14
import Derived.Test.YtmgggbgejdkamaaM01x13
import Derived.Test.YtmgggbgejdkamaaM01x12
/- Chapter 3: what the laws do with lists of lists: marks. -/
namespace Go.Proofs.Ytmgggbgejdkamaa
set_option maxRecDepth 20000
open Go.RowKit Go.Am
attribute [local irreducible] aPlan aGet aIf aLoop aCall RetB NextB CallB CallG aCut aSet aAppend

/-- Lists that hold marks, one behind the other. -/
def marksII (m : Int) : List (List Int) → List (List Int)
  | [] => []
  | xs :: xss => marks m xs.length :: marksII (m + xs.length) xss
theorem marksII_length : ∀ (m : Int) (xss : List (List Int)), (marksII m xss).length = xss.length
  | _, [] => rfl
  | m, xs :: xss => by simp [marksII, marksII_length]
theorem marksII_getD : ∀ (m : Int) (xss : List (List Int)) (k : Nat), k < xss.length → (marksII m xss).getD k [] = marks (m + tot (xss.take k)) (xss.getD k []).length
  | m, xs :: xss, 0, _ => by simp [marksII, tot]
  | m, xs :: xss, k + 1, h => by
    have h' : k < xss.length := by simpa using h
    have := marksII_getD (m + xs.length) xss k h'
    show (marksII (m + xs.length) xss).getD k [] = marks (m + tot (xs :: xss.take k)) (xss.getD k []).length
    rw [this]
    have e : tot (xs :: xss.take k) = xs.length + tot (xss.take k) := by simp [tot]
    rw [e]; congr 1; omega
theorem own_marks (t : TypeId) (m : Int) (n : Nat) : AV.own t 1 n ((marks m n).map (.int .i64)) = ownI t (marks m n) := by unfold ownI; rw [marks_length]
def sMarkII : CSpec := fnMR (ι := List (List Int) × Int) 22 1 (fun x => x.1.length) (fun x => x.1.map (ownI 3)) (fun x => x.2) (fun x => x.1.length ≤ 1048576 ∧ tot x.1 ≤ 1048576 ∧ 0 ≤ x.2 ∧ x.2 ≤ 100000000000) (fun x => x.2 + tot x.1) (fun x => (marksII x.2 x.1).map (ownI 3))
set_option maxHeartbeats 4000000 in
theorem markII_sound : Sound Try.prog 34 sMarkII := by
  refine sound_of Try.func34 rfl (enters_of Try.func34 (by kernel_rfl) (by kernel_rfl)) ?_
  rintro ⟨xss, m⟩ hpre
  have hpre : xss.length ≤ 1048576 ∧ tot xss ≤ 1048576 ∧ 0 ≤ m ∧ m ≤ 100000000000 := hpre
  have hmax : maxLen = 9223372036854775807 := rfl
  conv => whnf
  dsimp only
  repeat' (first
    | (refine aIf_t ?_; conv => whnf)
    | (refine aIf_f ?_; conv => whnf)
    | (refine fun (_ : _ ≤ maxLen) => ?_; conv => whnf)
    | (refine get_nat0 (by omega) ?_; conv => whnf)
    | (refine get_int0 (by omega) ?_; conv => whnf)
    | (refine get_nat (by omega) ?_; conv => whnf)
    | (refine get_int (by omega) ?_; conv => whnf)
    | (refine aGet_in rfl ?_; conv => whnf)
    | (refine And.intro (And.intro (Int.le_refl _) (And.intro (by kernel_rfl) (And.intro rfl (by kernel_rfl)))) (And.intro (And.intro (by omega) (And.intro (bytes_le (b := 8) rfl (by omega)) (by omega))) ?_); conv => whnf)
    | (refine And.intro (by omega) ?_; conv => whnf)
    | (refine load_same ?_; conv => whnf)
    | (refine And.intro (by rw [List.length_map]; omega) ?_; conv => whnf)
    | (refine And.intro rfl (And.intro (List.cons_ne_nil _ _) ?_); conv => whnf)
    | (refine And.intro (Nat.le_of_ble_eq_true rfl) ?_; conv => whnf)
    | (refine mark_call rfl (by rfl) (by omega) ?_; conv => whnf)
    | (refine callG_t ?_; conv => whnf)
    | (refine append_same ?_; conv => whnf)
    | (refine get_ii_n (by omega) ?_; conv => whnf)
    | (refine get_ii (by omega) ?_; conv => whnf)
    | (refine get_nd_n (by omega) rfl ?_; conv => whnf)
    | (refine get_nd (by omega) rfl ?_; conv => whnf)
    | (refine get_tn_n (by omega) rfl ?_; conv => whnf)
    | (refine get_tn (by omega) rfl ?_; conv => whnf)
    | (refine part_nd_n (by omega) ?_; conv => whnf)
    | (refine part_nd (by omega) ?_; conv => whnf)
    | (refine part_tn_n (by omega) ?_; conv => whnf)
    | (refine part_tn (by omega) ?_; conv => whnf)
    | (refine And.intro (pureL_ii _ _) ?_; conv => whnf)
    | (refine And.intro (pureL_nd _ _) ?_; conv => whnf)
    | (refine And.intro (pureL_tn _ _) ?_; conv => whnf)
    | (refine cut_ii rfl ?_; conv => whnf)
    | (refine cut_nd rfl ?_; conv => whnf)
    | (refine cut_tn rfl ?_; conv => whnf)
    | (refine And.intro (And.intro (Int.le_refl _) (And.intro (by kernel_rfl) (And.intro rfl (by kernel_rfl)))) (And.intro (And.intro (by omega) (And.intro (bytes_le (b := 24) rfl (by omega)) (by omega))) ?_); conv => whnf)
    | (refine And.intro (And.intro (Int.le_refl _) (And.intro (by kernel_rfl) (And.intro rfl (by kernel_rfl)))) (And.intro (And.intro (by omega) (And.intro (bytes_le (b := 48) rfl (by omega)) (by omega))) ?_); conv => whnf)
    | (refine And.intro rfl (And.intro rfl (And.intro (by rw [fillC_length (by omega)]; omega) ?_)); conv => whnf)
    | (refine And.intro rfl (And.intro rfl (And.intro (by rw [fillF_length (ndO_length _) rfl (by omega)]; omega) ?_)); conv => whnf)
    | (refine And.intro rfl (And.intro rfl (And.intro (by rw [fillF_length (tnO_length _) rfl (by omega)]; omega) ?_)); conv => whnf)
    | (refine And.intro (le_fillF_len (ndO_length _) rfl (by omega)) ?_; conv => whnf)
    | (refine And.intro (le_fillF_len (tnO_length _) rfl (by omega)) ?_; conv => whnf)
    | (refine set_fillC (by omega) (by omega) ?_; conv => whnf)
    | (refine set_fillF (ndO_length _) (by omega) rfl ?_; conv => whnf)
    | (refine set_fillF (tnO_length _) (by omega) rfl ?_; conv => whnf)
    | (refine And.intro (ond_fit (by omega) (Nat.le_of_ble_eq_true rfl)) ?_; conv => whnf)
    | (refine set_ond (by omega) (Nat.le_of_ble_eq_true rfl) ⟨_, rfl⟩ (fun _ _ _ _ => ?_); conv => whnf)
    | (refine get_oi_n (by omega) ?_; conv => whnf)
    | (refine get_ond_n (by omega) rfl ?_; conv => whnf)
    | (refine get_otn_n (by omega) rfl ?_; conv => whnf)
    | (refine takeN_in ?_; conv => whnf)
    | (refine And.intro (pureL_ints _ _) ?_; conv => whnf)
    | (refine And.intro (pureL_take _ _ _) ?_; conv => whnf)
    | (refine And.intro (pureL_cut _ _ _ _) ?_; conv => whnf)
    | (refine cut_ints ?_; conv => whnf)
    | (refine cut_marks ?_; conv => whnf)
    | (refine cut_all rfl (scalL_ints _ _) ?_; conv => whnf)
    | (refine cut_all (by simp only [List.length_map]; omega) (scalL_ints _ _) ?_; conv => whnf)
    | (refine And.intro rfl (And.intro rfl (And.intro (by first | omega | (rw [List.length_map]; omega)) ?_)); conv => whnf)
    | (refine set_nat ?_ (by omega); conv => whnf)
    | (refine set_int ?_ (by omega); conv => whnf)
    | (refine set_bool ?_ (by omega); conv => whnf)
    | (refine set_force ?_; conv => whnf)
    | (refine get_bool0 (by omega) ?_; conv => whnf)
    | (refine And.intro (And.intro (Int.le_refl _) (And.intro (by kernel_rfl) (And.intro rfl (by kernel_rfl)))) (And.intro (And.intro (by omega) (And.intro (bytes_le (b := 1) rfl (by omega)) (by omega))) ?_); conv => whnf)
    | (refine And.intro (And.intro (by kernel_rfl) (And.intro rfl (Nat.le_of_ble_eq_true rfl))) ?_; conv => whnf)
    | (refine And.intro (And.intro (by kernel_rfl) (by kernel_rfl)) ?_; conv => whnf)
    | (refine And.intro (by kernel_rfl) ?_; conv => whnf)
    | (refine aIf_tt (by assumption) ?_; conv => whnf)
    | (refine aIf_ff (by assumption) ?_; conv => whnf)
    | refine aIf_eqt ?_
    | refine aIf_eqf ?_
    | refine aIf_not ?_
    | (refine aIf_bself ?_; conv => whnf)
    | (refine aIf_beself ?_; conv => whnf)
    | (refine aIf_iself ?_; conv => whnf)
    | (refine aIf_decself ?_; conv => whnf)
    | (refine aIf_dec (fun _ => ?_) (fun _ => ?_) <;> conv => whnf)
    | (refine aIf_beq (fun _ => ?_) (fun _ => ?_) <;> conv => whnf)
    | (refine aIf_bne (fun _ => ?_) (fun _ => ?_) <;> conv => whnf)
    | (refine aIf_bbne (fun _ => ?_) (fun _ => ?_) <;> conv => whnf)
    | (refine aIf_bbeq (fun _ => ?_) (fun _ => ?_) <;> conv => whnf)
    | (refine aIf_in (fun _ => ?_) (fun _ => ?_) <;> conv => whnf))
  refine loop_u (ι := Nat × List (List Int)) [true, true, false, false, false, true, false, false, false, false, false, false, false, false, false, false, false, false, false] (fun | (k, _) => [(1, .int .i64 (m + tot (xss.take k))), (5, .int .i64 k)]) (fun | (_, L) => [(0, L.map (ownI 3))]) (fun | (k, L) => k ≤ xss.length ∧ L.length = xss.length ∧ (∀ j, j < k → L.getD j [] = (marksII m xss).getD j []) ∧ (∀ j, k ≤ j → L.getD j [] = xss.getD j [])) (fun x => xss.length - x.1) ((0, xss)) ⟨Nat.zero_le _, rfl, fun j hj => absurd hj (Nat.not_lt_zero _), fun _ _ => rfl⟩ ?_ ?_
  · conv => whnf
    repeat' (first | exact Or.inl (And.intro (pureL_oi _ _) rfl) | refine And.intro ?_ ?_)
    repeat' (first
      | exact trivial
      | exact rfl
      | exact pureL_ints _ _
      | exact pureL_bools _
      | exact Or.inl (And.intro rfl rfl)
      | exact Or.inl (And.intro (pureL_box _ _) rfl)
      | exact le_ints rfl
      | exact le_ints (rep_ints _ _)
      | exact le_bools rfl
      | exact le_bools (rep_bools _)
      | exact Or.inl (And.intro (pureL_pair _ _ _ _ _ _) rfl)
      | exact pureL_ii _ _
      | exact pureL_nd _ _
      | exact pureL_tn _ _
      | exact Or.inl (And.intro (pureL_oi _ _) rfl)
      | exact Or.inl (And.intro (pureL_ond _ _) rfl)
      | exact Or.inl (And.intro (pureL_otn _ _) rfl)
      | refine le_ints ?_
      | refine le_bools ?_
      | refine Or.inr ?_
      | refine And.intro ?_ ?_
      | exact Nat.le_of_ble_eq_true rfl
      | exact Nat.zero_le _
      | exact int_eq (by assumption)
      | exact int_eq (by omega)
      | exact int_eq (Int.add_zero _).symm
      | exact List.length_append
      | exact int_eq (by rw [IntWalk.i64_in _ (by omega)] <;> omega))
    all_goals exact int_eq (by simp [tot])
  · rintro ⟨k, L⟩ ⟨hk, hL, h1, h2⟩
    have hk : k ≤ xss.length := hk
    have hL : L.length = xss.length := hL
    have h1 : ∀ j, j < k → L.getD j [] = (marksII m xss).getD j [] := h1
    have h2 : ∀ j, k ≤ j → L.getD j [] = xss.getD j [] := h2
    have ht := sum_take_le List.length xss k
    have ht' : tot (xss.take k) ≤ tot xss := ht
    by_cases hlt : k < xss.length
    · have e2 := h2 k (Nat.le_refl _)
      have hll : (L.getD k []).length = (xss.getD k []).length := by rw [e2]
      have hl := len_le_tot hlt
      have hs := tot_succ hlt
      conv => whnf
      repeat' (first
        | (refine aIf_t ?_; conv => whnf)
        | (refine aIf_f ?_; conv => whnf)
        | (refine fun (_ : _ ≤ maxLen) => ?_; conv => whnf)
        | (refine get_nat0 (by omega) ?_; conv => whnf)
        | (refine get_int0 (by omega) ?_; conv => whnf)
        | (refine get_nat (by omega) ?_; conv => whnf)
        | (refine get_int (by omega) ?_; conv => whnf)
        | (refine aGet_in rfl ?_; conv => whnf)
        | (refine And.intro (And.intro (Int.le_refl _) (And.intro (by kernel_rfl) (And.intro rfl (by kernel_rfl)))) (And.intro (And.intro (by omega) (And.intro (bytes_le (b := 8) rfl (by omega)) (by omega))) ?_); conv => whnf)
        | (refine And.intro (by omega) ?_; conv => whnf)
        | (refine load_same ?_; conv => whnf)
        | (refine And.intro (by rw [List.length_map]; omega) ?_; conv => whnf)
        | (refine And.intro rfl (And.intro (List.cons_ne_nil _ _) ?_); conv => whnf)
        | (refine And.intro (Nat.le_of_ble_eq_true rfl) ?_; conv => whnf)
        | (refine mark_call rfl (by rfl) (by omega) ?_; conv => whnf)
        | (refine callG_t ?_; conv => whnf)
        | (refine append_same ?_; conv => whnf)
        | (refine get_ii_n (by omega) ?_; conv => whnf)
        | (refine get_ii (by omega) ?_; conv => whnf)
        | (refine get_nd_n (by omega) rfl ?_; conv => whnf)
        | (refine get_nd (by omega) rfl ?_; conv => whnf)
        | (refine get_tn_n (by omega) rfl ?_; conv => whnf)
        | (refine get_tn (by omega) rfl ?_; conv => whnf)
        | (refine part_nd_n (by omega) ?_; conv => whnf)
        | (refine part_nd (by omega) ?_; conv => whnf)
        | (refine part_tn_n (by omega) ?_; conv => whnf)
        | (refine part_tn (by omega) ?_; conv => whnf)
        | (refine And.intro (pureL_ii _ _) ?_; conv => whnf)
        | (refine And.intro (pureL_nd _ _) ?_; conv => whnf)
        | (refine And.intro (pureL_tn _ _) ?_; conv => whnf)
        | (refine cut_ii rfl ?_; conv => whnf)
        | (refine cut_nd rfl ?_; conv => whnf)
        | (refine cut_tn rfl ?_; conv => whnf)
        | (refine And.intro (And.intro (Int.le_refl _) (And.intro (by kernel_rfl) (And.intro rfl (by kernel_rfl)))) (And.intro (And.intro (by omega) (And.intro (bytes_le (b := 24) rfl (by omega)) (by omega))) ?_); conv => whnf)
        | (refine And.intro (And.intro (Int.le_refl _) (And.intro (by kernel_rfl) (And.intro rfl (by kernel_rfl)))) (And.intro (And.intro (by omega) (And.intro (bytes_le (b := 48) rfl (by omega)) (by omega))) ?_); conv => whnf)
        | (refine And.intro rfl (And.intro rfl (And.intro (by rw [fillC_length (by omega)]; omega) ?_)); conv => whnf)
        | (refine And.intro rfl (And.intro rfl (And.intro (by rw [fillF_length (ndO_length _) rfl (by omega)]; omega) ?_)); conv => whnf)
        | (refine And.intro rfl (And.intro rfl (And.intro (by rw [fillF_length (tnO_length _) rfl (by omega)]; omega) ?_)); conv => whnf)
        | (refine And.intro (le_fillF_len (ndO_length _) rfl (by omega)) ?_; conv => whnf)
        | (refine And.intro (le_fillF_len (tnO_length _) rfl (by omega)) ?_; conv => whnf)
        | (refine set_fillC (by omega) (by omega) ?_; conv => whnf)
        | (refine set_fillF (ndO_length _) (by omega) rfl ?_; conv => whnf)
        | (refine set_fillF (tnO_length _) (by omega) rfl ?_; conv => whnf)
        | (refine And.intro (ond_fit (by omega) (Nat.le_of_ble_eq_true rfl)) ?_; conv => whnf)
        | (refine set_ond (by omega) (Nat.le_of_ble_eq_true rfl) ⟨_, rfl⟩ (fun _ _ _ _ => ?_); conv => whnf)
        | (refine get_oi_n (by omega) ?_; conv => whnf)
        | (refine get_ond_n (by omega) rfl ?_; conv => whnf)
        | (refine get_otn_n (by omega) rfl ?_; conv => whnf)
        | (refine takeN_in ?_; conv => whnf)
        | (refine And.intro (pureL_ints _ _) ?_; conv => whnf)
        | (refine And.intro (pureL_take _ _ _) ?_; conv => whnf)
        | (refine And.intro (pureL_cut _ _ _ _) ?_; conv => whnf)
        | (refine cut_ints ?_; conv => whnf)
        | (refine cut_marks ?_; conv => whnf)
        | (refine cut_all rfl (scalL_ints _ _) ?_; conv => whnf)
        | (refine cut_all (by simp only [List.length_map]; omega) (scalL_ints _ _) ?_; conv => whnf)
        | (refine And.intro rfl (And.intro rfl (And.intro (by first | omega | (rw [List.length_map]; omega)) ?_)); conv => whnf)
        | (refine set_nat ?_ (by omega); conv => whnf)
        | (refine set_int ?_ (by omega); conv => whnf)
        | (refine set_bool ?_ (by omega); conv => whnf)
        | (refine set_force ?_; conv => whnf)
        | (refine get_bool0 (by omega) ?_; conv => whnf)
        | (refine And.intro (And.intro (Int.le_refl _) (And.intro (by kernel_rfl) (And.intro rfl (by kernel_rfl)))) (And.intro (And.intro (by omega) (And.intro (bytes_le (b := 1) rfl (by omega)) (by omega))) ?_); conv => whnf)
        | (refine And.intro (And.intro (by kernel_rfl) (And.intro rfl (Nat.le_of_ble_eq_true rfl))) ?_; conv => whnf)
        | (refine And.intro (And.intro (by kernel_rfl) (by kernel_rfl)) ?_; conv => whnf)
        | (refine And.intro (by kernel_rfl) ?_; conv => whnf)
        | (refine aIf_tt (by assumption) ?_; conv => whnf)
        | (refine aIf_ff (by assumption) ?_; conv => whnf)
        | refine aIf_eqt ?_
        | refine aIf_eqf ?_
        | refine aIf_not ?_
        | (refine aIf_bself ?_; conv => whnf)
        | (refine aIf_beself ?_; conv => whnf)
        | (refine aIf_iself ?_; conv => whnf)
        | (refine aIf_decself ?_; conv => whnf)
        | (refine aIf_dec (fun _ => ?_) (fun _ => ?_) <;> conv => whnf)
        | (refine aIf_beq (fun _ => ?_) (fun _ => ?_) <;> conv => whnf)
        | (refine aIf_bne (fun _ => ?_) (fun _ => ?_) <;> conv => whnf)
        | (refine aIf_bbne (fun _ => ?_) (fun _ => ?_) <;> conv => whnf)
        | (refine aIf_bbeq (fun _ => ?_) (fun _ => ?_) <;> conv => whnf)
        | (refine aIf_in (fun _ => ?_) (fun _ => ?_) <;> conv => whnf))
      all_goals (first | (exfalso; omega) | skip)
      refine next_ut (k + 1, L.set k (marks (m + tot (xss.take k)) (L.getD k []).length)) (show xss.length - (k + 1) < xss.length - k by omega) ⟨(by omega : k + 1 ≤ xss.length), (by rw [List.length_set]; exact hL : (L.set k _).length = xss.length), fun j hj => ?_, fun j hj => ?_⟩ ?_
      · have hj : j < k + 1 := hj
        show (L.set k _).getD j [] = _
        rw [getD_setG (by omega)]
        split
        · rename_i e; rw [← e, marksII_getD m xss k hlt, hll]
        · exact h1 j (by omega)
      · have hj : k + 1 ≤ j := hj
        show (L.set k _).getD j [] = _
        rw [getD_setG (by omega), if_neg (by omega)]
        exact h2 j (by omega)
      · conv => whnf
        refine to_close 0 (0 + (k : Int).toNat * 1) 1 1 _ 1 3 _ _ rfl (get_setC (by omega)) rfl (by decide) (Nat.le_of_ble_eq_true rfl) (by decide) (by simp [marks_length]) ?_
        refine St.le.to ?_
        conv => whnf
        repeat' (first | exact le_setC (by omega) (own_marks _ _ _) (ownI_pure _) | refine And.intro ?_ ?_)
        repeat' (first
          | exact trivial
          | exact rfl
          | exact pureL_ints _ _
          | exact pureL_bools _
          | exact Or.inl (And.intro rfl rfl)
          | exact Or.inl (And.intro (pureL_box _ _) rfl)
          | exact le_ints rfl
          | exact le_ints (rep_ints _ _)
          | exact le_bools rfl
          | exact le_bools (rep_bools _)
          | exact Or.inl (And.intro (pureL_pair _ _ _ _ _ _) rfl)
          | exact pureL_ii _ _
          | exact pureL_nd _ _
          | exact pureL_tn _ _
          | exact Or.inl (And.intro (pureL_oi _ _) rfl)
          | exact Or.inl (And.intro (pureL_ond _ _) rfl)
          | exact Or.inl (And.intro (pureL_otn _ _) rfl)
          | refine le_ints ?_
          | refine le_bools ?_
          | refine Or.inr ?_
          | refine And.intro ?_ ?_
          | exact Nat.le_of_ble_eq_true rfl
          | exact Nat.zero_le _
          | exact int_eq (by assumption)
          | exact int_eq (by omega)
          | exact int_eq (Int.add_zero _).symm
          | exact List.length_append
          | exact int_eq (by rw [IntWalk.i64_in _ (by omega)] <;> omega))
    · have e : k = xss.length := by omega
      have et := tot_all e
      have eL : L = marksII m xss := getD_extG (d := []) (by rw [marksII_length]; exact hL) fun j hj => h1 j (by rw [marksII_length] at hj; omega)
      conv => whnf
      repeat' (first
        | (refine aIf_t ?_; conv => whnf)
        | (refine aIf_f ?_; conv => whnf)
        | (refine fun (_ : _ ≤ maxLen) => ?_; conv => whnf)
        | (refine get_nat0 (by omega) ?_; conv => whnf)
        | (refine get_int0 (by omega) ?_; conv => whnf)
        | (refine get_nat (by omega) ?_; conv => whnf)
        | (refine get_int (by omega) ?_; conv => whnf)
        | (refine aGet_in rfl ?_; conv => whnf)
        | (refine And.intro (And.intro (Int.le_refl _) (And.intro (by kernel_rfl) (And.intro rfl (by kernel_rfl)))) (And.intro (And.intro (by omega) (And.intro (bytes_le (b := 8) rfl (by omega)) (by omega))) ?_); conv => whnf)
        | (refine And.intro (by omega) ?_; conv => whnf)
        | (refine load_same ?_; conv => whnf)
        | (refine And.intro (by rw [List.length_map]; omega) ?_; conv => whnf)
        | (refine And.intro rfl (And.intro (List.cons_ne_nil _ _) ?_); conv => whnf)
        | (refine And.intro (Nat.le_of_ble_eq_true rfl) ?_; conv => whnf)
        | (refine mark_call rfl (by rfl) (by omega) ?_; conv => whnf)
        | (refine callG_t ?_; conv => whnf)
        | (refine append_same ?_; conv => whnf)
        | (refine get_ii_n (by omega) ?_; conv => whnf)
        | (refine get_ii (by omega) ?_; conv => whnf)
        | (refine get_nd_n (by omega) rfl ?_; conv => whnf)
        | (refine get_nd (by omega) rfl ?_; conv => whnf)
        | (refine get_tn_n (by omega) rfl ?_; conv => whnf)
        | (refine get_tn (by omega) rfl ?_; conv => whnf)
        | (refine part_nd_n (by omega) ?_; conv => whnf)
        | (refine part_nd (by omega) ?_; conv => whnf)
        | (refine part_tn_n (by omega) ?_; conv => whnf)
        | (refine part_tn (by omega) ?_; conv => whnf)
        | (refine And.intro (pureL_ii _ _) ?_; conv => whnf)
        | (refine And.intro (pureL_nd _ _) ?_; conv => whnf)
        | (refine And.intro (pureL_tn _ _) ?_; conv => whnf)
        | (refine cut_ii rfl ?_; conv => whnf)
        | (refine cut_nd rfl ?_; conv => whnf)
        | (refine cut_tn rfl ?_; conv => whnf)
        | (refine And.intro (And.intro (Int.le_refl _) (And.intro (by kernel_rfl) (And.intro rfl (by kernel_rfl)))) (And.intro (And.intro (by omega) (And.intro (bytes_le (b := 24) rfl (by omega)) (by omega))) ?_); conv => whnf)
        | (refine And.intro (And.intro (Int.le_refl _) (And.intro (by kernel_rfl) (And.intro rfl (by kernel_rfl)))) (And.intro (And.intro (by omega) (And.intro (bytes_le (b := 48) rfl (by omega)) (by omega))) ?_); conv => whnf)
        | (refine And.intro rfl (And.intro rfl (And.intro (by rw [fillC_length (by omega)]; omega) ?_)); conv => whnf)
        | (refine And.intro rfl (And.intro rfl (And.intro (by rw [fillF_length (ndO_length _) rfl (by omega)]; omega) ?_)); conv => whnf)
        | (refine And.intro rfl (And.intro rfl (And.intro (by rw [fillF_length (tnO_length _) rfl (by omega)]; omega) ?_)); conv => whnf)
        | (refine And.intro (le_fillF_len (ndO_length _) rfl (by omega)) ?_; conv => whnf)
        | (refine And.intro (le_fillF_len (tnO_length _) rfl (by omega)) ?_; conv => whnf)
        | (refine set_fillC (by omega) (by omega) ?_; conv => whnf)
        | (refine set_fillF (ndO_length _) (by omega) rfl ?_; conv => whnf)
        | (refine set_fillF (tnO_length _) (by omega) rfl ?_; conv => whnf)
        | (refine And.intro (ond_fit (by omega) (Nat.le_of_ble_eq_true rfl)) ?_; conv => whnf)
        | (refine set_ond (by omega) (Nat.le_of_ble_eq_true rfl) ⟨_, rfl⟩ (fun _ _ _ _ => ?_); conv => whnf)
        | (refine get_oi_n (by omega) ?_; conv => whnf)
        | (refine get_ond_n (by omega) rfl ?_; conv => whnf)
        | (refine get_otn_n (by omega) rfl ?_; conv => whnf)
        | (refine takeN_in ?_; conv => whnf)
        | (refine And.intro (pureL_ints _ _) ?_; conv => whnf)
        | (refine And.intro (pureL_take _ _ _) ?_; conv => whnf)
        | (refine And.intro (pureL_cut _ _ _ _) ?_; conv => whnf)
        | (refine cut_ints ?_; conv => whnf)
        | (refine cut_marks ?_; conv => whnf)
        | (refine cut_all rfl (scalL_ints _ _) ?_; conv => whnf)
        | (refine cut_all (by simp only [List.length_map]; omega) (scalL_ints _ _) ?_; conv => whnf)
        | (refine And.intro rfl (And.intro rfl (And.intro (by first | omega | (rw [List.length_map]; omega)) ?_)); conv => whnf)
        | (refine set_nat ?_ (by omega); conv => whnf)
        | (refine set_int ?_ (by omega); conv => whnf)
        | (refine set_bool ?_ (by omega); conv => whnf)
        | (refine set_force ?_; conv => whnf)
        | (refine get_bool0 (by omega) ?_; conv => whnf)
        | (refine And.intro (And.intro (Int.le_refl _) (And.intro (by kernel_rfl) (And.intro rfl (by kernel_rfl)))) (And.intro (And.intro (by omega) (And.intro (bytes_le (b := 1) rfl (by omega)) (by omega))) ?_); conv => whnf)
        | (refine And.intro (And.intro (by kernel_rfl) (And.intro rfl (Nat.le_of_ble_eq_true rfl))) ?_; conv => whnf)
        | (refine And.intro (And.intro (by kernel_rfl) (by kernel_rfl)) ?_; conv => whnf)
        | (refine And.intro (by kernel_rfl) ?_; conv => whnf)
        | (refine aIf_tt (by assumption) ?_; conv => whnf)
        | (refine aIf_ff (by assumption) ?_; conv => whnf)
        | refine aIf_eqt ?_
        | refine aIf_eqf ?_
        | refine aIf_not ?_
        | (refine aIf_bself ?_; conv => whnf)
        | (refine aIf_beself ?_; conv => whnf)
        | (refine aIf_iself ?_; conv => whnf)
        | (refine aIf_decself ?_; conv => whnf)
        | (refine aIf_dec (fun _ => ?_) (fun _ => ?_) <;> conv => whnf)
        | (refine aIf_beq (fun _ => ?_) (fun _ => ?_) <;> conv => whnf)
        | (refine aIf_bne (fun _ => ?_) (fun _ => ?_) <;> conv => whnf)
        | (refine aIf_bbne (fun _ => ?_) (fun _ => ?_) <;> conv => whnf)
        | (refine aIf_bbeq (fun _ => ?_) (fun _ => ?_) <;> conv => whnf)
        | (refine aIf_in (fun _ => ?_) (fun _ => ?_) <;> conv => whnf))
      all_goals (first | (exfalso; omega) | skip)
      exact retMR (protL_oi _ _) (by rw [et]) (by rw [eL])
theorem markII_call {xss : List (List Int)} {m : Int} {env : List AV} {rows : List Row} {ctr low τ ver n : Nat} {k : AV → St → Prop} (hr : rows[τ]? = some ⟨ver, 22, 1, xss.map (ownI 3)⟩) (hn : n = xss.length) (hpre : xss.length ≤ 1048576 ∧ tot xss ≤ 1048576 ∧ 0 ≤ m ∧ m ≤ 100000000000)
    (hk : k (.int .i64 (m + tot xss)) ⟨env, setRows rows [τ] [(marksII m xss).map (ownI 3)], ctr + 1, low⟩) : CallG Try.prog 34 ⟨env, rows, ctr, low⟩ [.ref τ ver 0 n, .int .i64 m] k :=
  callMR_in markII_sound (xss, m) hpre (protL_oi _ _) (protL_oi _ _) hr hn rfl hk

/-- Nodes whose lists are as long as others'. -/
def likeN (ns L : List Nd) : Prop := L.length = ns.length ∧ ∀ j, (L.getD j default).l.length = (ns.getD j default).l.length
end Go.Proofs.Ytmgggbgejdkamaa

/- Chapter 4: what the laws do with index sums. -/
namespace Go.Am
open Go.RowKit
abbrev Sm := List Int × List (List Int) × List Int
def smRows (t tt : TypeId) (v : Nat) (M : Sm) : List Row := [⟨v, t, 1, M.1.map (.int .i64)⟩, ⟨v, tt, 1, M.2.1.map (ownI t)⟩, ⟨v, t, 1, M.2.2.map (.int .i64)⟩]
/-- An index sum in three new rows; the same and a bool. -/
def fnIS {ι : Type} (t tt : TypeId) (args : ι → List AV) (pre : ι → Prop) (M : ι → Sm) : CSpec :=
  { ι := ι, inout := [], args := args, ins := fun _ => [], pre := pre, post := fun x r ic news => ic = [] ∧ r = .agg [.ref 0 0 0 (M x).1.length, .ref 1 0 0 (M x).2.1.length, .ref 2 0 0 (M x).2.2.length] ∧ news = smRows t tt 0 (M x) }
def fnISB {ι : Type} (t tt : TypeId) (args : ι → List AV) (pre : ι → Prop) (M : ι → Sm) (b : ι → Bool) : CSpec :=
  { ι := ι, inout := [], args := args, ins := fun _ => [], pre := pre, post := fun x r ic news => ic = [] ∧ r = .tup [.agg [.ref 0 0 0 (M x).1.length, .ref 1 0 0 (M x).2.1.length, .ref 2 0 0 (M x).2.2.length], .bool (b x)] ∧ news = smRows t tt 0 (M x) }
theorem news_sm {env : List AV} {rows : List Row} {ctr low : Nat} {T : List Nat} {t tt : TypeId} {M : Sm} : (⟨env, rows, ctr, low⟩ : St).news T (smRows t tt 0 M) = smRows t tt ctr M := by
  simp [smRows, St.news, protL_back (protL_ints .i64 M.1), protL_back (protL_oi t M.2.1), protL_back (protL_ints .i64 M.2.2)]
section
variable {P : Program} {f : FuncId} {ι : Type} {t tt : TypeId} {args : ι → List AV} {pre : ι → Prop} {M : ι → Sm} {b : ι → Bool} {env : List AV} {rows : List Row} {ctr low : Nat} {k : AV → St → Prop}
theorem callIS_in (hs : Sound P f (fnIS t tt args pre M)) (x : ι) (hpre : pre x)
    (hk : k (.agg [.ref rows.length ctr 0 (M x).1.length, .ref (rows.length + 1) ctr 0 (M x).2.1.length, .ref (rows.length + 2) ctr 0 (M x).2.2.length]) ⟨env, rows ++ smRows t tt ctr (M x), ctr + 1, low⟩) : CallB P f ⟨env, rows, ctr, low⟩ (args x) k := callB_in (sp := fnIS t tt args pre M) hs rfl x rfl hpre (by
  rintro r news ⟨-, rfl, rfl⟩
  rw [news_sm]
  simpa [AV.back, backL, backT, backV, Nat.add_comm] using hk)
theorem callISB_in (hs : Sound P f (fnISB t tt args pre M b)) (x : ι) (hpre : pre x)
    (hk : k (.tup [.agg [.ref rows.length ctr 0 (M x).1.length, .ref (rows.length + 1) ctr 0 (M x).2.1.length, .ref (rows.length + 2) ctr 0 (M x).2.2.length], .bool (b x)]) ⟨env, rows ++ smRows t tt ctr (M x), ctr + 1, low⟩) : CallB P f ⟨env, rows, ctr, low⟩ (args x) k := callB_in (sp := fnISB t tt args pre M b) hs rfl x rfl hpre (by
  rintro r news ⟨-, rfl, rfl⟩
  rw [news_sm]
  simpa [AV.back, backL, backT, backV, Nat.add_comm] using hk)
end
theorem retIS {env : List AV} {rows : List Row} {ctr τ1 τ2 τ3 v1 v2 v3 n1 n2 n3 : Nat} {t tt : TypeId} {xs zs : List Int} {yss : List (List Int)} {M : Sm} (hM : M = (xs, yss, zs)) (h12 : τ1 ≠ τ2) (h13 : τ1 ≠ τ3) (h23 : τ2 ≠ τ3) (h1 : rows[τ1]? = some ⟨v1, t, 1, xs.map (.int .i64)⟩) (h2 : rows[τ2]? = some ⟨v2, tt, 1, yss.map (ownI t)⟩) (h3 : rows[τ3]? = some ⟨v3, t, 1, zs.map (.int .i64)⟩)
    (e1 : n1 = xs.length) (e2 : n2 = yss.length) (e3 : n3 = zs.length) :
    RetB ⟨env, rows, ctr, 0⟩ [] (fun r ic news => ic = [] ∧ r = .agg [.ref 0 0 0 M.1.length, .ref 1 0 0 M.2.1.length, .ref 2 0 0 M.2.2.length] ∧ news = smRows t tt 0 M) (.agg [.ref τ1 v1 0 n1, .ref τ2 v2 0 n2, .ref τ3 v3 0 n3]) := by
  subst hM; subst e1; subst e2; subst e3
  refine retP1 (Q := fun r news => r = .agg [.ref 0 0 0 xs.length, .ref 1 0 0 yss.length, .ref 2 0 0 zs.length] ∧ news = smRows t tt 0 (xs, yss, zs)) (L := [τ1, τ2, τ3]) (by simp [h12, h13, h23]) ?_ ?_ ⟨rfl, rfl⟩
  · simp [insOf, smRows, h1, h2, h3, protL_ren (protL_ints .i64 xs), protL_ren (protL_oi t yss), protL_ren (protL_ints .i64 zs)]
  · have a : (τ1 == τ2) = false := by simpa using h12
    have b : (τ1 == τ3) = false := by simpa using h13
    have c : (τ2 == τ3) = false := by simpa using h23
    simp [AV.ren, renL, h1, h2, h3, List.idxOf, List.findIdx_cons, a, b, c]
theorem retISB {env : List AV} {rows : List Row} {ctr τ1 τ2 τ3 v1 v2 v3 n1 n2 n3 : Nat} {t tt : TypeId} {xs zs : List Int} {yss : List (List Int)} {M : Sm} {b b' : Bool} (hM : M = (xs, yss, zs)) (hb : b = b') (h12 : τ1 ≠ τ2) (h13 : τ1 ≠ τ3) (h23 : τ2 ≠ τ3) (h1 : rows[τ1]? = some ⟨v1, t, 1, xs.map (.int .i64)⟩) (h2 : rows[τ2]? = some ⟨v2, tt, 1, yss.map (ownI t)⟩) (h3 : rows[τ3]? = some ⟨v3, t, 1, zs.map (.int .i64)⟩)
    (e1 : n1 = xs.length) (e2 : n2 = yss.length) (e3 : n3 = zs.length) :
    RetB ⟨env, rows, ctr, 0⟩ [] (fun r ic news => ic = [] ∧ r = .tup [.agg [.ref 0 0 0 M.1.length, .ref 1 0 0 M.2.1.length, .ref 2 0 0 M.2.2.length], .bool b'] ∧ news = smRows t tt 0 M) (.tup [.agg [.ref τ1 v1 0 n1, .ref τ2 v2 0 n2, .ref τ3 v3 0 n3], .bool b]) := by
  subst hM; subst e1; subst e2; subst e3; subst hb
  refine retP1 (Q := fun r news => r = .tup [.agg [.ref 0 0 0 xs.length, .ref 1 0 0 yss.length, .ref 2 0 0 zs.length], .bool b] ∧ news = smRows t tt 0 (xs, yss, zs)) (L := [τ1, τ2, τ3]) (by simp [h12, h13, h23]) ?_ ?_ ⟨rfl, rfl⟩
  · simp [insOf, smRows, h1, h2, h3, protL_ren (protL_ints .i64 xs), protL_ren (protL_oi t yss), protL_ren (protL_ints .i64 zs)]
  · have a : (τ1 == τ2) = false := by simpa using h12
    have b : (τ1 == τ3) = false := by simpa using h13
    have c : (τ2 == τ3) = false := by simpa using h23
    simp [AV.ren, renL, h1, h2, h3, List.idxOf, List.findIdx_cons, a, b, c]
/-- A call that writes into the three rows of an index sum, and answers a number. -/
def fnMS {ι : Type} (t tt : TypeId) (M : ι → Sm) (m : ι → Int) (pre : ι → Prop) (r : ι → Int) (M' : ι → Sm) : CSpec :=
  { ι := ι, inout := [true], args := fun x => [.agg [.ref 0 0 0 (M x).1.length, .ref 1 0 0 (M x).2.1.length, .ref 2 0 0 (M x).2.2.length], .int .i64 (m x)], ins := fun x => smRows t tt 0 (M x), pre := pre, post := fun x u ic news => u = .int .i64 (r x) ∧ ic = [(M' x).1.map (.int .i64), (M' x).2.1.map (ownI t), (M' x).2.2.map (.int .i64)] ∧ news = [] }
theorem callMS_in {P : Program} {f : FuncId} {ι : Type} {t tt : TypeId} {M M' : ι → Sm} {m : ι → Int} {pre : ι → Prop} {r : ι → Int} (hs : Sound P f (fnMS t tt M m pre r M')) (x : ι) (hpre : pre x) {env : List AV} {rows : List Row} {ctr low τ1 τ2 τ3 v1 v2 v3 n1 n2 n3 : Nat} {i : Int} {k : AV → St → Prop}
    (h1 : rows[τ1]? = some ⟨v1, t, 1, (M x).1.map (.int .i64)⟩) (h2 : rows[τ2]? = some ⟨v2, tt, 1, (M x).2.1.map (ownI t)⟩) (h3 : rows[τ3]? = some ⟨v3, t, 1, (M x).2.2.map (.int .i64)⟩) (h12 : τ1 ≠ τ2) (h13 : τ1 ≠ τ3) (h23 : τ2 ≠ τ3) (e1 : n1 = (M x).1.length) (e2 : n2 = (M x).2.1.length) (e3 : n3 = (M x).2.2.length) (hi : i = m x)
    (hk : k (.int .i64 (r x)) ⟨env, setRows rows [τ1, τ2, τ3] [(M' x).1.map (.int .i64), (M' x).2.1.map (ownI t), (M' x).2.2.map (.int .i64)], ctr + 1, low⟩) :
    CallG P f ⟨env, rows, ctr, low⟩ [.agg [.ref τ1 v1 0 n1, .ref τ2 v2 0 n2, .ref τ3 v3 0 n3], .int .i64 i] k := by
  subst e1; subst e2; subst e3; subst hi
  refine .inr ⟨[τ1, τ2, τ3], _, hs, [.agg [.ref 0 0 0 (M x).1.length, .ref 1 0 0 (M x).2.1.length, .ref 2 0 0 (M x).2.2.length], .int .i64 (m x)], smRows t tt 0 (M x), by simp [h12, h13, h23], ?_, ?_, x, rfl, rfl, hpre, ?_⟩
  · have a : (τ1 == τ2) = false := by simpa using h12
    have b : (τ1 == τ3) = false := by simpa using h13
    have c : (τ2 == τ3) = false := by simpa using h23
    have ea : callArg ⟨env, rows, ctr, low⟩ [τ1, τ2, τ3] true (.agg [.ref τ1 v1 0 (M x).1.length, .ref τ2 v2 0 (M x).2.1.length, .ref τ3 v3 0 (M x).2.2.length]) = some (.agg [.ref 0 0 0 (M x).1.length, .ref 1 0 0 (M x).2.1.length, .ref 2 0 0 (M x).2.2.length]) := by
      simp [callArg, AV.ren, renL, h1, h2, h3, List.idxOf, List.findIdx_cons, a, b, c]
    show (callArg ⟨env, rows, ctr, low⟩ [τ1, τ2, τ3] true (.agg [.ref τ1 v1 0 (M x).1.length, .ref τ2 v2 0 (M x).2.1.length, .ref τ3 v3 0 (M x).2.2.length])).bind _ = _
    rw [ea]
    rfl
  · simp [insOf, smRows, h1, h2, h3, protL_ren (protL_ints .i64 (M x).1), protL_ren (protL_oi t (M x).2.1), protL_ren (protL_ints .i64 (M x).2.2)]
  · rintro u ic news ⟨rfl, rfl, rfl⟩ _
    show k (.int .i64 (r x)) ⟨env, setRows rows [τ1, τ2, τ3] [backL _ [τ1, τ2, τ3] ((M' x).1.map (.int .i64)), backL _ [τ1, τ2, τ3] ((M' x).2.1.map (ownI t)), backL _ [τ1, τ2, τ3] ((M' x).2.2.map (.int .i64))] ++ [], ctr + 1, low⟩
    rw [List.append_nil, protL_back (protL_ints _ _), protL_back (protL_oi _ _), protL_back (protL_ints _ _)]; exact hk
theorem retMS {env : List AV} {ctr : Nat} {t tt : TypeId} {M M' : Sm} {v1 v2 v3 : Nat} {rest : List Row} {us ws : List Int} {vss : List (List Int)} {i i' : Int} (e : i = i') (hM : M' = (us, vss, ws)) :
    RetB ⟨env, ⟨v1, t, 1, us.map (.int .i64)⟩ :: ⟨v2, tt, 1, vss.map (ownI t)⟩ :: ⟨v3, t, 1, ws.map (.int .i64)⟩ :: rest, ctr, 3⟩ (smRows t tt 0 M) (fun u ic news => u = .int .i64 i' ∧ ic = [M'.1.map (.int .i64), M'.2.1.map (ownI t), M'.2.2.map (.int .i64)] ∧ news = []) (.int .i64 i) := by
  subst e; subst hM
  refine RetB1.ret ⟨[], [⟨0, t, 1, us.map (.int .i64)⟩, ⟨0, tt, 1, vss.map (ownI t)⟩, ⟨0, t, 1, ws.map (.int .i64)⟩], .int .i64 i, [us.map (.int .i64), vss.map (ownI t), ws.map (.int .i64)], [], (show ([0, 1, 2] : List Nat).Nodup by decide), ?_, rfl, rfl, rfl, rfl, rfl, rfl⟩
  show insOf _ [0, 1, 2] [0, 1, 2] = _
  simp [insOf, protL_ren (protL_ints .i64 us), protL_ren (protL_oi t vss), protL_ren (protL_ints .i64 ws)]
end Go.Am
namespace Go.Proofs.Ytmgggbgejdkamaa
set_option maxRecDepth 20000
open Go.RowKit Go.Am
attribute [local irreducible] aPlan aGet aIf aLoop aCall RetB NextB CallB CallG aCut aSet aAppend
def isSize (zs : List Int) (fs : List (List Int)) (o : List Int) : Nat := zs.length + (fs.length + tot fs) + o.length
set_option maxRecDepth 10000 in
theorem szIndexSum_sound : Sound Try.prog 15 (fnP (ι := IS × Int) (fun | ((c, zs, d, fs, e, o), m) => [.agg [.sl c zs.length (zs.map (.int .i64)), .sl d fs.length (fs.map (slI d)), .sl e o.length (o.map (.int .i64))], .int .i64 m]) (fun | (_, m) => 0 ≤ m ∧ m ≤ 1048576) (fun | ((_, zs, _, fs, _, o), m) => leftN (isSize zs fs o) m)) := by
  refine sound_of Try.func15 rfl (enters_of Try.func15 (by kernel_rfl) (by kernel_rfl)) ?_
  rintro ⟨⟨c, zs, d, fs, e, o⟩, m⟩ hpre
  have hpre : 0 ≤ m ∧ m ≤ 1048576 := hpre
  conv => whnf
  repeat' (first
    | (refine aGet_in rfl ?_; conv => whnf)
    | (refine And.intro rfl (And.intro (List.cons_ne_nil _ _) ?_); conv => whnf)
    | (refine callG_t ?_; conv => whnf)
    | (refine szIntS_call (by omega) (fun _ _ => ?_); conv => whnf)
    | (refine append_same ?_; conv => whnf)
    | (refine And.intro (pureL_ii _ _) ?_; conv => whnf)
    | (refine szIntSS_call (by omega) (fun _ _ => ?_); conv => whnf)
    | (refine And.intro (pureL_ints _ _) ?_; conv => whnf)
    | (refine aIf_dec (fun _ => ?_) (fun _ => ?_) <;> conv => whnf))
  · exact retP1 (L := []) (by simp) rfl rfl ⟨_, rfl, rfl, .inl (by decide)⟩
  · exact retP1 (L := []) (by simp) rfl rfl ⟨_, rfl, rfl, .inl (by decide)⟩
  · exact retP1 (L := []) (by simp) rfl rfl ⟨_, rfl, rfl, .inl (by decide)⟩
  · exact retP1 (L := []) (by simp) rfl rfl ⟨_, rfl, rfl, .inr (by unfold isSize; omega)⟩
theorem szIndexSum_call {c d e : Nat} {zs o : List Int} {fs : List (List Int)} {m : Int} {env : List AV} {rows : List Row} {ctr low : Nat} {k : AV → St → Prop} (hpre : 0 ≤ m ∧ m ≤ 1048576) (hk : ∀ q : Int, (q < 0 ∨ (0 ≤ q ∧ q = m - ((isSize zs fs o : Nat) : Int))) → k (.int .i64 q) ⟨env, rows, ctr + 1, low⟩) :
    CallB Try.prog 15 ⟨env, rows, ctr, low⟩ [.agg [.sl c zs.length (zs.map (.int .i64)), .sl d fs.length (fs.map (slI d)), .sl e o.length (o.map (.int .i64))], .int .i64 m] k := callP_in szIndexSum_sound ((c, zs, d, fs, e, o), m) hpre (by
  rintro r news ⟨n, rfl, rfl, h⟩
  simpa [AV.back, St.news] using hk n h)
theorem toIndexSum_sound : Sound Try.prog 18 (fnIS (ι := IS) 3 22 (fun | (c, zs, d, fs, e, o) => [.agg [.sl c zs.length (zs.map (.int .i64)), .sl d fs.length (fs.map (slI d)), .sl e o.length (o.map (.int .i64))]]) (fun | (_, zs, _, fs, _, o) => isSize zs fs o ≤ 1048576) (fun | (_, zs, _, fs, _, o) => (zs, fs, o))) := by
  refine sound_of Try.func18 rfl (enters_of Try.func18 (by kernel_rfl) (by kernel_rfl)) ?_
  rintro ⟨c, zs, d, fs, e, o⟩ hpre
  have hpre : zs.length + (fs.length + tot fs) + o.length ≤ 1048576 := hpre
  conv => whnf
  repeat' (first
    | (refine aGet_in rfl ?_; conv => whnf)
    | (refine load_same ?_; conv => whnf)
    | (refine And.intro rfl (And.intro (List.cons_ne_nil _ _) ?_); conv => whnf)
    | (refine And.intro (Nat.le_of_ble_eq_true rfl) ?_; conv => whnf)
    | (refine callG_t ?_; conv => whnf)
    | (refine append_same ?_; conv => whnf)
    | (refine And.intro (pureL_ii _ _) ?_; conv => whnf)
    | (refine toIntSS_call (by constructor <;> omega) ?_; conv => whnf)
    | (refine takeN_in ?_; conv => whnf)
    | (refine And.intro (pureL_ints _ _) ?_; conv => whnf)
    | (refine toIntS_call (by omega) ?_; conv => whnf)
    | (refine set_force ?_; conv => whnf)
    | (refine And.intro (by kernel_rfl) ?_; conv => whnf))
  exact retIS rfl (by decide) (by decide) (by decide) rfl rfl rfl rfl rfl rfl
theorem toIndexSum_call {c d e : Nat} {zs o : List Int} {fs : List (List Int)} {env : List AV} {rows : List Row} {ctr low : Nat} {k : AV → St → Prop} (hpre : isSize zs fs o ≤ 1048576) (h : k (.agg [.ref rows.length ctr 0 zs.length, .ref (rows.length + 1) ctr 0 fs.length, .ref (rows.length + 2) ctr 0 o.length]) ⟨env, rows ++ [⟨ctr, 3, 1, zs.map (.int .i64)⟩, ⟨ctr, 22, 1, fs.map (ownI 3)⟩, ⟨ctr, 3, 1, o.map (.int .i64)⟩], ctr + 1, low⟩) :
    CallB Try.prog 18 ⟨env, rows, ctr, low⟩ [.agg [.sl c zs.length (zs.map (.int .i64)), .sl d fs.length (fs.map (slI d)), .sl e o.length (o.map (.int .i64))]] k := callIS_in toIndexSum_sound (c, zs, d, fs, e, o) hpre h
set_option maxRecDepth 10000 in
theorem eqIndexSum_sound : Sound Try.prog 21 (fnS (ι := IS × IS) (fun | ((c, zs, d, fs, e, o), (c', zs', d', fs', e', o')) => [.agg [.sl c zs.length (zs.map (.int .i64)), .sl d fs.length (fs.map (slI d)), .sl e o.length (o.map (.int .i64))], .agg [.sl c' zs'.length (zs'.map (.int .i64)), .sl d' fs'.length (fs'.map (slI d')), .sl e' o'.length (o'.map (.int .i64))]]) (fun _ => True) (fun | ((_, zs, _, fs, _, o), (_, zs', _, fs', _, o')) => .bool (decide ((zs, fs, o) = (zs', fs', o'))))) := by
  refine sound_of Try.func21 rfl (enters_of Try.func21 (by kernel_rfl) (by kernel_rfl)) ?_
  rintro ⟨⟨c, zs, d, fs, e, o⟩, ⟨c', zs', d', fs', e', o'⟩⟩ -
  conv => whnf
  repeat' (first
    | (refine aGet_in rfl ?_; conv => whnf)
    | (refine And.intro rfl (And.intro (List.cons_ne_nil _ _) ?_); conv => whnf)
    | (refine callG_t ?_; conv => whnf)
    | (refine append_same ?_; conv => whnf)
    | (refine And.intro (pureL_ii _ _) ?_; conv => whnf)
    | (refine eqIntSS_call trivial ?_; conv => whnf)
    | (refine And.intro (pureL_ints _ _) ?_; conv => whnf)
    | (refine eqIntS_call ?_; conv => whnf)
    | refine aIf_not ?_
    | (refine aIf_dec (fun _ => ?_) (fun _ => ?_) <;> conv => whnf))
  all_goals refine retS rfl (congrArg AV.bool ?_)
  all_goals simp_all
theorem eqIndexSum_call {c d e c' d' e' : Nat} {zs o zs' o' : List Int} {fs fs' : List (List Int)} {env : List AV} {rows : List Row} {ctr low : Nat} {k : AV → St → Prop} (h : k (.bool (decide ((zs, fs, o) = (zs', fs', o')))) ⟨env, rows, ctr + 1, low⟩) :
    CallB Try.prog 21 ⟨env, rows, ctr, low⟩ [.agg [.sl c zs.length (zs.map (.int .i64)), .sl d fs.length (fs.map (slI d)), .sl e o.length (o.map (.int .i64))], .agg [.sl c' zs'.length (zs'.map (.int .i64)), .sl d' fs'.length (fs'.map (slI d')), .sl e' o'.length (o'.map (.int .i64))]] k := callS_in eqIndexSum_sound ((c, zs, d, fs, e, o), (c', zs', d', fs', e', o')) trivial rfl h
def sMarkS : CSpec := fnMS (ι := List Int × List (List Int) × List Int × Int) 3 22 (fun x => (x.1, x.2.1, x.2.2.1)) (fun x => x.2.2.2) (fun x => isSize x.1 x.2.1 x.2.2.1 ≤ 1048576 ∧ 0 ≤ x.2.2.2 ∧ x.2.2.2 ≤ 1000000) (fun x => x.2.2.2 + x.1.length + tot x.2.1 + x.2.2.1.length) (fun x => (marks x.2.2.2 x.1.length, marksII (x.2.2.2 + x.1.length) x.2.1, marks (x.2.2.2 + x.1.length + tot x.2.1) x.2.2.1.length))
set_option maxHeartbeats 4000000 in
theorem markIndexSum_sound : Sound Try.prog 25 sMarkS := by
  refine sound_of Try.func25 rfl (enters_of Try.func25 (by kernel_rfl) (by kernel_rfl)) ?_
  rintro ⟨zs, fs, o, m⟩ hpre
  have hpre : zs.length + (fs.length + tot fs) + o.length ≤ 1048576 ∧ 0 ≤ m ∧ m ≤ 1000000 := hpre
  conv => whnf
  dsimp only
  repeat' (first
    | (refine aGet_in rfl ?_; conv => whnf)
    | (refine And.intro rfl (And.intro (List.cons_ne_nil _ _) ?_); conv => whnf)
    | (refine mark_call rfl (by rfl) (by omega) ?_; conv => whnf)
    | (refine markII_call rfl rfl (by omega) ?_; conv => whnf)
    | (refine append_same ?_; conv => whnf))
  exact retMS rfl rfl
theorem markIndexSum_call {zs o : List Int} {fs : List (List Int)} {m : Int} {env : List AV} {rows : List Row} {ctr low τ1 τ2 τ3 v1 v2 v3 n1 n2 n3 : Nat} {k : AV → St → Prop} (h1 : rows[τ1]? = some ⟨v1, 3, 1, zs.map (.int .i64)⟩) (h2 : rows[τ2]? = some ⟨v2, 22, 1, fs.map (ownI 3)⟩) (h3 : rows[τ3]? = some ⟨v3, 3, 1, o.map (.int .i64)⟩) (h12 : τ1 ≠ τ2) (h13 : τ1 ≠ τ3) (h23 : τ2 ≠ τ3) (e1 : n1 = zs.length) (e2 : n2 = fs.length) (e3 : n3 = o.length) (hpre : isSize zs fs o ≤ 1048576 ∧ 0 ≤ m ∧ m ≤ 1000000)
    (hk : k (.int .i64 (m + zs.length + tot fs + o.length)) ⟨env, setRows rows [τ1, τ2, τ3] [(marks m zs.length).map (.int .i64), (marksII (m + zs.length) fs).map (ownI 3), (marks (m + zs.length + tot fs) o.length).map (.int .i64)], ctr + 1, low⟩) : CallG Try.prog 25 ⟨env, rows, ctr, low⟩ [.agg [.ref τ1 v1 0 n1, .ref τ2 v2 0 n2, .ref τ3 v3 0 n3], .int .i64 m] k :=
  callMS_in markIndexSum_sound (zs, fs, o, m) hpre h1 h2 h3 h12 h13 h23 e1 e2 e3 rfl hk
end Go.Proofs.Ytmgggbgejdkamaa

/- TurnShape. -/
namespace Go.Proofs.Ytmgggbgejdkamaa
set_option maxRecDepth 20000
open Go.RowKit Go.Am
attribute [local irreducible] aPlan aGet aIf aLoop aCall RetB NextB CallB CallG aCut aSet

def turned (xs ax : List Int) : List Int := ax.map fun a => xs.getD a.toNat 0
theorem turned_length (xs ax : List Int) : (turned xs ax).length = ax.length := by simp [turned]
theorem turned_getD {xs ax : List Int} {j : Nat} (h : j < ax.length) : (turned xs ax).getD j 0 = xs.getD (ax.getD j 0).toNat 0 := by
  simp [turned, List.getD, List.getElem?_map, List.getElem?_eq_getElem h]
def tsOk (xs ax : List Int) : Bool := shapeOk xs && turnOk ax xs.length
def tsL (xs ax : List Int) : List Int := if tsOk xs ax = true then turned xs ax else []
theorem tsL_t {xs ax : List Int} (h : shapeOk xs = true) (h' : turnOk ax xs.length = true) : tsL xs ax = turned xs ax ∧ true = tsOk xs ax := ⟨if_pos (by unfold tsOk; rw [h, h']; rfl), by unfold tsOk; rw [h, h']; rfl⟩
theorem tsL_f1 {xs ax : List Int} (h : shapeOk xs = false) : tsL xs ax = [] ∧ false = tsOk xs ax := ⟨if_neg (by unfold tsOk; rw [h, Bool.false_and]; decide), by unfold tsOk; rw [h]; rfl⟩
theorem tsL_f2 {xs ax : List Int} (h' : turnOk ax xs.length = false) : tsL xs ax = [] ∧ false = tsOk xs ax := ⟨if_neg (by unfold tsOk; rw [h', Bool.and_false]; decide), by unfold tsOk; rw [h', Bool.and_false]⟩
theorem tsL_le (xs ax : List Int) : (tsL xs ax).length ≤ ax.length := by
  unfold tsL; split
  · exact Nat.le_of_eq (turned_length _ _)
  · exact Nat.zero_le _

def sTurnShape : CSpec := fnLB (ι := Nat × List Int × Nat × List Int) 3 (fun | (c, xs, d, ax) => [.sl c xs.length (xs.map (.int .i64)), .sl d ax.length (ax.map (.int .i64))]) (fun | (_, xs, _, ax) => xs.length ≤ 1048576 ∧ ax.length ≤ 1048576) (fun | (_, xs, _, ax) => tsL xs ax) (fun | (_, xs, _, ax) => tsOk xs ax)
theorem ts_end {env : List AV} {rows : List Row} {ctr τ ver : Nat} {xs ax zs' : List Int} {b : Bool} {r : Row} {n : Nat} (e1 : tsL xs ax = zs' ∧ b = tsOk xs ax) (hr : rows[τ]? = some r) (hv : r.ver = ver) (e : r = ⟨ver, 3, 1, zs'.map (.int .i64)⟩) (hn : n = zs'.length) :
    RetB ⟨env, rows, ctr, 0⟩ [] (fun r ic news => r = .tup [.ref 0 0 0 (tsL xs ax).length, .bool (tsOk xs ax)] ∧ ic = [] ∧ news = [⟨0, 3, 1, (tsL xs ax).map (.int .i64)⟩]) (.tup [.ref τ ver 0 n, .bool b]) := by
  rw [e1.1]; exact retLB hr hv e hn e1.2

theorem pickNums_sound : Sound Try.prog 95 (fnL (ι := Nat × List Int × Nat × List Int) 3 (fun | (c, xs, d, ax) => [.sl c xs.length (xs.map (.int .i64)), .sl d ax.length (ax.map (.int .i64))]) (fun | (_, xs, _, ax) => ax.length ≤ 1048576 ∧ ∀ j, j < ax.length → 0 ≤ ax.getD j 0 ∧ ax.getD j 0 < xs.length) (fun | (_, xs, _, ax) => turned xs ax)) := by
  refine sound_of Try.func95 rfl (enters_of Try.func95 (by kernel_rfl) (by kernel_rfl)) ?_
  rintro ⟨c, xs, d, ax⟩ hpre
  obtain ⟨hpl, hin⟩ : ax.length ≤ 1048576 ∧ ∀ j, j < ax.length → 0 ≤ ax.getD j 0 ∧ ax.getD j 0 < xs.length := hpre
  have hmax : maxLen = 9223372036854775807 := rfl
  conv => whnf
  repeat' (first
    | (refine fun (_ : _ ≤ maxLen) => ?_; conv => whnf)
    | (refine And.intro (And.intro (Int.le_refl _) (And.intro (by kernel_rfl) (And.intro rfl (by kernel_rfl)))) (And.intro (And.intro (by omega) (And.intro (bytes_le (b := 8) rfl (by omega)) (by omega))) ?_); conv => whnf)
    | (refine append_same ?_; conv => whnf))
  refine loop_u (ι := Nat × List Int) [true, false, false, false, false, true, false, false, false, false, false, true, true, true, false, false, false, false, false, false, false, false, false, false, false, false, false] (fun | (k, _) => [(13, .int .i64 k)]) (fun | (_, ws) => [(1, ws.map (.int .i64))]) (fun | (k, ws) => k ≤ ax.length ∧ ws.length = ax.length ∧ ∀ j, j < k → ws.getD j 0 = xs.getD (ax.getD j 0).toNat 0) (fun x => ax.length - x.1) ((0, List.replicate ax.length 0)) ⟨Nat.zero_le _, by simp, fun j hj => absurd hj (Nat.not_lt_zero _)⟩ ?_ ?_
  · conv => whnf
    repeat' (first
      | exact trivial
      | exact rfl
      | exact pureL_ints _ _
      | exact Or.inl (And.intro rfl rfl)
      | exact le_ints (rep_ints _ _)
      | refine And.intro ?_ ?_
      | exact Nat.le_of_ble_eq_true rfl)
  · rintro ⟨k, ws⟩ ⟨hk, hl, hall⟩
    have hk : k ≤ ax.length := hk
    have hl : ws.length = ax.length := hl
    have hall : ∀ j, j < k → ws.getD j 0 = xs.getD (ax.getD j 0).toNat 0 := hall
    have hink := hin k
    by_cases hlt : k < ax.length
    · have hink := hink hlt
      conv => whnf
      repeat' (first
        | (refine get_nat (by omega) ?_; conv => whnf)
        | (refine get_int (by omega) ?_; conv => whnf)
        | (refine And.intro (by omega) ?_; conv => whnf)
        | (refine append_same ?_; conv => whnf)
        | (refine And.intro rfl (And.intro rfl (And.intro (by first | omega | (rw [List.length_map]; omega)) ?_)); conv => whnf)
        | (refine set_nat ?_ (by omega); conv => whnf)
        | (refine aIf_dec (fun _ => ?_) (fun _ => ?_) <;> conv => whnf))
      all_goals (first | (exfalso; omega) | skip)
      refine next_u (k + 1, ws.set k (xs.getD (ax.getD k 0).toNat 0)) (show ax.length - (k + 1) < ax.length - k by omega) ⟨(show k + 1 ≤ ax.length by omega), by simpa using hl, fun j hj => ?_⟩ ?_
      · have hj : j < k + 1 := hj
        show (ws.set k (xs.getD (ax.getD k 0).toNat 0)).getD j 0 = _
        rw [getD_set (by omega)]
        split
        · rename_i e; rw [e]
        · exact hall j (by omega)
      · conv => whnf
        repeat' (first
          | exact trivial
          | exact rfl
          | exact pureL_ints _ _
          | exact Or.inl (And.intro rfl rfl)
          | exact le_ints rfl
          | refine And.intro ?_ ?_
          | exact Nat.le_of_ble_eq_true rfl
          | exact int_eq (by rw [IntWalk.i64_in _ (by omega)] <;> omega))
    · have e : k = ax.length := by omega
      have e : ws = turned xs ax := getD_ext (by rw [turned_length, hl]) fun j hj => by
        rw [turned_length] at hj
        rw [hall j (by omega), turned_getD hj]
      subst e
      conv => whnf
      repeat' (first
        | (refine get_nat (by omega) ?_; conv => whnf)
        | (refine And.intro (by omega) ?_; conv => whnf)
        | (refine append_same ?_; conv => whnf)
        | (refine set_nat ?_ (by omega); conv => whnf)
        | (refine aIf_dec (fun _ => ?_) (fun _ => ?_) <;> conv => whnf))
      all_goals (first | (exfalso; omega) | skip)
      exact retL rfl rfl rfl hl.symm
theorem pickNums_call {c d : Nat} {xs ax : List Int} {env : List AV} {rows : List Row} {ctr low : Nat} {k : AV → St → Prop} (hpre : ax.length ≤ 1048576 ∧ ∀ j, j < ax.length → 0 ≤ ax.getD j 0 ∧ ax.getD j 0 < xs.length) (h : k (.ref rows.length ctr 0 (turned xs ax).length) ⟨env, rows ++ [⟨ctr, 3, 1, (turned xs ax).map (.int .i64)⟩], ctr + 1, low⟩) :
    CallB Try.prog 95 ⟨env, rows, ctr, low⟩ [.sl c xs.length (xs.map (.int .i64)), .sl d ax.length (ax.map (.int .i64))] k := callL_in pickNums_sound (c, xs, d, ax) hpre h
end Go.Proofs.Ytmgggbgejdkamaa
