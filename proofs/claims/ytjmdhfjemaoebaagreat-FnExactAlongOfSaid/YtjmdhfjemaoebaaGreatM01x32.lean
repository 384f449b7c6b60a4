import Derived.Test.YtjmdhfjemaoebaaGreatM01x28
import Derived.Test.YtjmdhfjemaoebaaGreatM01x29
import Derived.Test.YtjmdhfjemaoebaaGreatM01x13
namespace Go.Proofs.YtjmdhfjemaoebaaGreat
set_option maxRecDepth 20000
open Go.RowKit Go.Am
attribute [local irreducible] aPlan aGet aIf aLoop aCall RetB NextB CallB CallG aCut aSet aAppend
def marksII (m : Int) : List (List Int) → List (List Int)
  | [] => []
  | xs :: xss => marks m xs.length :: marksII (m + xs.length) xss
theorem marksII_length : ∀ (m : Int) (xss : List (List Int)), (marksII m xss).length = xss.length
  | _, [] => rfl
  | m, xs :: xss => by simp [marksII, marksII_length]
theorem marksII_getD : ∀ (m : Int) (xss : List (List Int)) (k : Nat), k < xss.length → (marksII m xss).getD k [] = marks (m + tot (xss.take k)) (xss.getD k []).length
  | m, xs :: xss, 0, _ => by simp [marksII, tot]
  | m, xs :: xss, k + 1, h => by
    have h' : k < xss.length := by simpa using h
    have := marksII_getD (m + xs.length) xss k h'
    show (marksII (m + xs.length) xss).getD k [] = marks (m + tot (xs :: xss.take k)) (xss.getD k []).length
    rw [this]
    have e : tot (xs :: xss.take k) = xs.length + tot (xss.take k) := by simp [tot]
    rw [e]; congr 1; omega
theorem own_marks (t : TypeId) (m : Int) (n : Nat) : AV.own t 1 n ((marks m n).map (.int .i64)) = ownI t (marks m n) := by unfold ownI; rw [marks_length]
def sMarkII : CSpec := fnMR (ι := List (List Int) × Int) 38 1 (fun x => x.1.length) (fun x => x.1.map (ownI 3)) (fun x => x.2) (fun x => x.1.length ≤ 1048576 ∧ tot x.1 ≤ 1048576 ∧ 0 ≤ x.2 ∧ x.2 ≤ 100000000000) (fun x => x.2 + tot x.1) (fun x => (marksII x.2 x.1).map (ownI 3))
set_option maxHeartbeats 4000000 in
theorem markII_sound : Sound Tryz.prog 47 sMarkII := by
  refine sound_of Tryz.func47 rfl (enters_of Tryz.func47 (by kernel_rfl) (by kernel_rfl)) ?_
  rintro ⟨xss, m⟩ hpre
  have hpre : xss.length ≤ 1048576 ∧ tot xss ≤ 1048576 ∧ 0 ≤ m ∧ m ≤ 100000000000 := hpre
  have hmax : maxLen = 9223372036854775807 := rfl
  conv => whnf
  dsimp only
  repeat' (first
    | (refine append_same ?_; conv => whnf))
  refine loop_u (ι := Nat × List (List Int)) [true, true, false, false, false, true, false, false, false, false, false, false, false, false, false, false, false, false, false] (fun | (k, _) => [(1, .int .i64 (m + tot (xss.take k))), (5, .int .i64 k)]) (fun | (_, L) => [(0, L.map (ownI 3))]) (fun | (k, L) => k ≤ xss.length ∧ L.length = xss.length ∧ (∀ j, j < k → L.getD j [] = (marksII m xss).getD j []) ∧ (∀ j, k ≤ j → L.getD j [] = xss.getD j [])) (fun x => xss.length - x.1) ((0, xss)) ⟨Nat.zero_le _, rfl, fun j hj => absurd hj (Nat.not_lt_zero _), fun _ _ => rfl⟩ ?_ ?_
  · conv => whnf
    repeat' (first | exact Or.inl (And.intro (pureL_oi _ _) rfl) | refine And.intro ?_ ?_)
    repeat' (first
      | exact trivial | exact rfl
      | exact Nat.le_of_ble_eq_true rfl | exact int_eq (Int.add_zero _).symm)
    all_goals exact int_eq (by simp [tot])
  · rintro ⟨k, L⟩ ⟨hk, hL, h1, h2⟩
    have hk : k ≤ xss.length := hk
    have hL : L.length = xss.length := hL
    have h1 : ∀ j, j < k → L.getD j [] = (marksII m xss).getD j [] := h1
    have h2 : ∀ j, k ≤ j → L.getD j [] = xss.getD j [] := h2
    have ht := sum_take_le List.length xss k
    have ht' : tot (xss.take k) ≤ tot xss := ht
    by_cases hlt : k < xss.length
    · have e2 := h2 k (Nat.le_refl _)
      have hll : (L.getD k []).length = (xss.getD k []).length := by rw [e2]
      have hl := len_le_tot hlt
      have hs := tot_succ hlt
      conv => whnf
      repeat' (first
        | ((first | refine fun (_ : _ ≤ maxLen) => ?_ | refine And.intro (by omega) ?_ | refine mark_call rfl (by rfl) (by omega) ?_ | refine append_same ?_ | refine get_oi_n (by omega) ?_); conv => whnf) | (refine aIf_dec (fun _ => ?_) (fun _ => ?_) <;> conv => whnf))
      all_goals (first | (exfalso; omega) | skip)
      refine next_ut (k + 1, L.set k (marks (m + tot (xss.take k)) (L.getD k []).length)) (show xss.length - (k + 1) < xss.length - k by omega) ⟨(by omega : k + 1 ≤ xss.length), (by rw [List.length_set]; exact hL : (L.set k _).length = xss.length), fun j hj => ?_, fun j hj => ?_⟩ ?_
      · have hj : j < k + 1 := hj
        show (L.set k _).getD j [] = _
        rw [getD_setG (by omega)]
        split
        · rename_i e; rw [← e, marksII_getD m xss k hlt, hll]
        · exact h1 j (by omega)
      · have hj : k + 1 ≤ j := hj
        show (L.set k _).getD j [] = _
        rw [getD_setG (by omega), if_neg (by omega)]
        exact h2 j (by omega)
      · conv => whnf
        refine to_close 0 (0 + (k : Int).toNat * 1) 1 1 _ 1 3 _ _ rfl (get_setC (by omega)) rfl (by decide) (Nat.le_of_ble_eq_true rfl) (by decide) (by simp [marks_length]) ?_
        refine St.le.to ?_
        conv => whnf
        repeat' (first | exact le_setC (by omega) (own_marks _ _ _) (ownI_pure _) | refine And.intro ?_ ?_)
        repeat' (first
          | exact trivial | exact rfl
          | exact Nat.le_of_ble_eq_true rfl | exact int_eq (by omega)
          | exact int_eq (by rw [IntWalk.i64_in _ (by omega)] <;> omega))
    · have e : k = xss.length := by omega
      have et := tot_all e
      have eL : L = marksII m xss := getD_extG (d := []) (by rw [marksII_length]; exact hL) fun j hj => h1 j (by rw [marksII_length] at hj; omega)
      conv => whnf
      repeat' (first
        | ((first | refine fun (_ : _ ≤ maxLen) => ?_ | refine And.intro (by omega) ?_ | refine mark_call rfl (by rfl) (by omega) ?_ | refine append_same ?_ | refine get_oi_n (by omega) ?_); conv => whnf) | (refine aIf_dec (fun _ => ?_) (fun _ => ?_) <;> conv => whnf))
      all_goals (first | (exfalso; omega) | skip)
      exact retMR (protL_oi _ _) (by rw [et]) (by rw [eL])
theorem markII_call {xss : List (List Int)} {m : Int} {env : List AV} {rows : List Row} {ctr low τ ver n : Nat} {k : AV → St → Prop} (hr : rows[τ]? = some ⟨ver, 38, 1, xss.map (ownI 3)⟩) (hn : n = xss.length) (hpre : xss.length ≤ 1048576 ∧ tot xss ≤ 1048576 ∧ 0 ≤ m ∧ m ≤ 100000000000)
    (hk : k (.int .i64 (m + tot xss)) ⟨env, setRows rows [τ] [(marksII m xss).map (ownI 3)], ctr + 1, low⟩) : CallG Tryz.prog 47 ⟨env, rows, ctr, low⟩ [.ref τ ver 0 n, .int .i64 m] k :=
  callMR_in markII_sound (xss, m) hpre (protL_oi _ _) (protL_oi _ _) hr hn rfl hk
def likeN (ns L : List Nd) : Prop := L.length = ns.length ∧ ∀ j, (L.getD j default).l.length = (ns.getD j default).l.length
def sMarkN : CSpec := fnMX (ι := List Nd × Int) (β := List Nd) 75 4 (fun x => x.1.length) (fun x => x.1.flatMap (ndO 3)) (fun x => x.2) (fun x => x.1.length ≤ 1048576 ∧ ntot x.1 ≤ 1048576 ∧ 0 ≤ x.2 ∧ x.2 ≤ 100000000000) (fun x => x.2 + 3 * x.1.length + ntot x.1) (fun x y => likeN x.1 y) (fun L => L.flatMap (ndO 3))
set_option maxHeartbeats 4000000 in
theorem markN_sound : Sound Tryz.prog 48 sMarkN := by
  refine sound_of Tryz.func48 rfl (enters_of Tryz.func48 (by kernel_rfl) (by kernel_rfl)) ?_
  rintro ⟨ns, m⟩ hpre
  have hpre : ns.length ≤ 1048576 ∧ ntot ns ≤ 1048576 ∧ 0 ≤ m ∧ m ≤ 100000000000 := hpre
  have hmax : maxLen = 9223372036854775807 := rfl
  conv => whnf
  dsimp only
  repeat' (first
    | ((first | refine aIf_t ?_ | refine aIf_f ?_ | refine fun (_ : _ ≤ maxLen) => ?_ | refine get_nat0 (by omega) ?_ | refine get_int0 (by omega) ?_ | refine get_nat (by omega) ?_ | refine get_int (by omega) ?_ | refine aGet_in rfl ?_ | refine And.intro (And.intro (Int.le_refl _) (And.intro (by kernel_rfl) (And.intro rfl (by kernel_rfl)))) (And.intro (And.intro (by omega) (And.intro (bytes_le (b := 8) rfl (by omega)) (by omega))) ?_) | refine And.intro (by omega) ?_ | refine load_same ?_ | refine And.intro (by rw [List.length_map]; omega) ?_ | refine And.intro rfl (And.intro (List.cons_ne_nil _ _) ?_) | refine And.intro (Nat.le_of_ble_eq_true rfl) ?_ | refine mark_call rfl (by rfl) (by omega) ?_ | refine callG_t ?_ | refine append_same ?_ | refine get_ii_n (by omega) ?_ | refine get_ii (by omega) ?_ | refine get_nd_n (by omega) rfl ?_ | refine get_nd (by omega) rfl ?_ | refine get_tn_n (by omega) rfl ?_ | refine get_tn (by omega) rfl ?_ | refine part_nd_n (by omega) ?_ | refine part_nd (by omega) ?_ | refine part_tn_n (by omega) ?_ | refine part_tn (by omega) ?_ | refine And.intro (pureL_ii _ _) ?_ | refine And.intro (pureL_nd _ _) ?_ | refine And.intro (pureL_tn _ _) ?_ | refine cut_ii rfl ?_ | refine cut_nd rfl ?_ | refine cut_tn rfl ?_ | refine And.intro (And.intro (Int.le_refl _) (And.intro (by kernel_rfl) (And.intro rfl (by kernel_rfl)))) (And.intro (And.intro (by omega) (And.intro (bytes_le (b := 24) rfl (by omega)) (by omega))) ?_) | refine And.intro (And.intro (Int.le_refl _) (And.intro (by kernel_rfl) (And.intro rfl (by kernel_rfl)))) (And.intro (And.intro (by omega) (And.intro (bytes_le (b := 48) rfl (by omega)) (by omega))) ?_) | refine And.intro rfl (And.intro rfl (And.intro (by rw [fillC_length (by omega)]; omega) ?_)) | refine And.intro rfl (And.intro rfl (And.intro (by rw [fillF_length (ndO_length _) rfl (by omega)]; omega) ?_)) | refine And.intro rfl (And.intro rfl (And.intro (by rw [fillF_length (tnO_length _) rfl (by omega)]; omega) ?_)) | refine And.intro (le_fillF_len (ndO_length _) rfl (by omega)) ?_ | refine And.intro (le_fillF_len (tnO_length _) rfl (by omega)) ?_ | refine set_fillC (by omega) (by omega) ?_ | refine set_fillF (ndO_length _) (by omega) rfl ?_ | refine set_fillF (tnO_length _) (by omega) rfl ?_ | refine And.intro (ond_fit (by omega) (Nat.le_of_ble_eq_true rfl)) ?_ | refine set_ond (by omega) (Nat.le_of_ble_eq_true rfl) ⟨_, rfl⟩ (fun _ _ _ _ => ?_) | refine get_oi_n (by omega) ?_ | refine get_ond_n (by omega) rfl ?_ | refine get_otn_n (by omega) rfl ?_ | refine get_oi (by omega) ?_ | refine get_oi (by omega) ?_ | refine get_oi (by omega) ?_ | refine takeN_in ?_ | refine And.intro (pureL_ints _ _) ?_ | refine And.intro (pureL_take _ _ _) ?_ | refine And.intro (pureL_cut _ _ _ _) ?_ | refine cut_ints ?_ | refine cut_marks ?_ | refine cut_all rfl (scalL_ints _ _) ?_ | refine cut_all (by simp only [List.length_map]; omega) (scalL_ints _ _) ?_ | refine And.intro rfl (And.intro rfl (And.intro (by first | omega | (rw [List.length_map]; omega)) ?_)) | refine set_nat ?_ (by omega) | refine set_int ?_ (by omega) | refine set_bool ?_ (by omega) | refine set_force ?_ | refine get_bool0 (by omega) ?_ | refine And.intro (And.intro (Int.le_refl _) (And.intro (by kernel_rfl) (And.intro rfl (by kernel_rfl)))) (And.intro (And.intro (by omega) (And.intro (bytes_le (b := 1) rfl (by omega)) (by omega))) ?_) | refine And.intro (And.intro (by kernel_rfl) (And.intro rfl (Nat.le_of_ble_eq_true rfl))) ?_ | refine And.intro (And.intro (by kernel_rfl) (by kernel_rfl)) ?_ | refine And.intro (by kernel_rfl) ?_ | refine aIf_tt (by assumption) ?_ | refine aIf_ff (by assumption) ?_); conv => whnf) | refine aIf_eqt ?_
    | refine aIf_eqf ?_ | refine aIf_not ?_
    | ((first | refine aIf_bself ?_ | refine aIf_beself ?_ | refine aIf_iself ?_ | refine aIf_decself ?_); conv => whnf) | (refine aIf_dec (fun _ => ?_) (fun _ => ?_) <;> conv => whnf) | (refine aIf_beq (fun _ => ?_) (fun _ => ?_) <;> conv => whnf) | (refine aIf_bne (fun _ => ?_) (fun _ => ?_) <;> conv => whnf) | (refine aIf_bbne (fun _ => ?_) (fun _ => ?_) <;> conv => whnf) | (refine aIf_bbeq (fun _ => ?_) (fun _ => ?_) <;> conv => whnf) | (refine aIf_in (fun _ => ?_) (fun _ => ?_) <;> conv => whnf))
  refine loop_u (ι := Nat × List Nd) [true, true, false, false, false, true, false, false, false, false, false, false, false, false, false, false, false, false, false, false, false, false, false, false, false, false, false, false, false, false, false, false, false, false, false, false, false, false, false, false, false] (fun | (k, _) => [(1, .int .i64 (m + 3 * k + ntot (ns.take k))), (5, .int .i64 k)]) (fun | (_, L) => [(0, L.flatMap (ndO 3))]) (fun | (k, L) => k ≤ ns.length ∧ likeN ns L) (fun x => ns.length - x.1) ((0, ns)) ⟨Nat.zero_le _, rfl, fun _ => rfl⟩ ?_ ?_
  · conv => whnf
    repeat' (first | exact int_eq (show m = m + 3 * ((0 : Nat) : Int) + ntot (ns.take 0) by simp [ntot]) | exact Or.inl (And.intro (pureL_ond _ _) rfl) | refine And.intro ?_ ?_)
    repeat' (first
      | exact trivial | exact rfl
      | exact pureL_ints _ _ | exact pureL_bools _
      | exact Or.inl (And.intro rfl rfl) | exact Or.inl (And.intro (pureL_box _ _) rfl)
      | exact le_ints rfl | exact le_ints (rep_ints _ _)
      | exact le_bools rfl | exact le_bools (rep_bools _)
      | exact Or.inl (And.intro (pureL_pair _ _ _ _ _ _) rfl) | exact pureL_ii _ _
      | exact pureL_nd _ _ | exact pureL_tn _ _
      | exact Or.inl (And.intro (pureL_oi _ _) rfl) | exact Or.inl (And.intro (pureL_ond _ _) rfl)
      | exact Or.inl (And.intro (pureL_otn _ _) rfl) | exact Or.inl (And.intro (pureL_nd _ _) rfl)
      | refine le_ints ?_ | refine le_bools ?_
      | refine Or.inr ?_ | refine And.intro ?_ ?_
      | exact Nat.le_of_ble_eq_true rfl | exact Nat.zero_le _
      | exact int_eq (by assumption) | exact int_eq (by omega)
      | exact int_eq (Int.add_zero _).symm | exact List.length_append
      | exact int_eq (by rw [IntWalk.i64_in _ (by omega)] <;> omega))
  · rintro ⟨k, L⟩ ⟨hk, hL, h2⟩
    have hk : k ≤ ns.length := hk
    have hL : L.length = ns.length := hL
    have ht' : ntot (ns.take k) ≤ ntot ns := sum_take_le (fun n : Nd => n.l.length) ns k
    by_cases hlt : k < ns.length
    · have hll := h2 k
      have hl := len_le_ntot hlt
      have hs := ntot_succ hlt
      have hw : IntKind.i64.wrap (IntKind.i64.wrap (IntKind.i64.wrap (m + 3 * (k : Int) + (ntot (ns.take k) : Int) + 1) + 1) + 1) = m + 3 * (k : Int) + (ntot (ns.take k) : Int) + 3 := by
        rw [IntWalk.i64_in (m + 3 * (k : Int) + (ntot (ns.take k) : Int) + 1) (by omega), IntWalk.i64_in (m + 3 * (k : Int) + (ntot (ns.take k) : Int) + 1 + 1) (by omega), IntWalk.i64_in (m + 3 * (k : Int) + (ntot (ns.take k) : Int) + 1 + 1 + 1) (by omega)]
        omega
      conv => whnf
      repeat' (first
        | ((first | refine aIf_t ?_ | refine aIf_f ?_ | refine fun (_ : _ ≤ maxLen) => ?_ | refine get_nat0 (by omega) ?_ | refine get_int0 (by omega) ?_ | refine get_nat (by omega) ?_ | refine get_int (by omega) ?_ | refine aGet_in rfl ?_ | refine And.intro (And.intro (Int.le_refl _) (And.intro (by kernel_rfl) (And.intro rfl (by kernel_rfl)))) (And.intro (And.intro (by omega) (And.intro (bytes_le (b := 8) rfl (by omega)) (by omega))) ?_) | refine And.intro (by omega) ?_ | refine load_same ?_ | refine And.intro (by rw [List.length_map]; omega) ?_ | refine And.intro rfl (And.intro (List.cons_ne_nil _ _) ?_) | refine And.intro (Nat.le_of_ble_eq_true rfl) ?_ | refine mark_call rfl (by rfl) (by omega) ?_ | refine callG_t ?_ | refine append_same ?_ | refine get_ii_n (by omega) ?_ | refine get_ii (by omega) ?_ | refine get_nd_n (by omega) rfl ?_ | refine get_nd (by omega) rfl ?_ | refine get_tn_n (by omega) rfl ?_ | refine get_tn (by omega) rfl ?_ | refine part_nd_n (by omega) ?_ | refine part_nd (by omega) ?_ | refine part_tn_n (by omega) ?_ | refine part_tn (by omega) ?_ | refine And.intro (pureL_ii _ _) ?_ | refine And.intro (pureL_nd _ _) ?_ | refine And.intro (pureL_tn _ _) ?_ | refine cut_ii rfl ?_ | refine cut_nd rfl ?_ | refine cut_tn rfl ?_ | refine And.intro (And.intro (Int.le_refl _) (And.intro (by kernel_rfl) (And.intro rfl (by kernel_rfl)))) (And.intro (And.intro (by omega) (And.intro (bytes_le (b := 24) rfl (by omega)) (by omega))) ?_) | refine And.intro (And.intro (Int.le_refl _) (And.intro (by kernel_rfl) (And.intro rfl (by kernel_rfl)))) (And.intro (And.intro (by omega) (And.intro (bytes_le (b := 48) rfl (by omega)) (by omega))) ?_) | refine And.intro rfl (And.intro rfl (And.intro (by rw [fillC_length (by omega)]; omega) ?_)) | refine And.intro rfl (And.intro rfl (And.intro (by rw [fillF_length (ndO_length _) rfl (by omega)]; omega) ?_)) | refine And.intro rfl (And.intro rfl (And.intro (by rw [fillF_length (tnO_length _) rfl (by omega)]; omega) ?_)) | refine And.intro (le_fillF_len (ndO_length _) rfl (by omega)) ?_ | refine And.intro (le_fillF_len (tnO_length _) rfl (by omega)) ?_ | refine set_fillC (by omega) (by omega) ?_ | refine set_fillF (ndO_length _) (by omega) rfl ?_ | refine set_fillF (tnO_length _) (by omega) rfl ?_ | refine And.intro (ond_fit (by omega) (Nat.le_of_ble_eq_true rfl)) ?_ | refine set_ond (by omega) (Nat.le_of_ble_eq_true rfl) ⟨_, rfl⟩ (fun _ _ _ _ => ?_) | refine get_oi_n (by omega) ?_ | refine get_ond_n (by omega) rfl ?_ | refine get_otn_n (by omega) rfl ?_ | refine get_oi (by omega) ?_ | refine get_oi (by omega) ?_ | refine get_oi (by omega) ?_ | refine takeN_in ?_ | refine And.intro (pureL_ints _ _) ?_ | refine And.intro (pureL_take _ _ _) ?_ | refine And.intro (pureL_cut _ _ _ _) ?_ | refine cut_ints ?_ | refine cut_marks ?_ | refine cut_all rfl (scalL_ints _ _) ?_ | refine cut_all (by simp only [List.length_map]; omega) (scalL_ints _ _) ?_ | refine And.intro rfl (And.intro rfl (And.intro (by first | omega | (rw [List.length_map]; omega)) ?_)) | refine set_nat ?_ (by omega) | refine set_int ?_ (by omega) | refine set_bool ?_ (by omega) | refine set_force ?_ | refine get_bool0 (by omega) ?_ | refine And.intro (And.intro (Int.le_refl _) (And.intro (by kernel_rfl) (And.intro rfl (by kernel_rfl)))) (And.intro (And.intro (by omega) (And.intro (bytes_le (b := 1) rfl (by omega)) (by omega))) ?_) | refine And.intro (And.intro (by kernel_rfl) (And.intro rfl (Nat.le_of_ble_eq_true rfl))) ?_ | refine And.intro (And.intro (by kernel_rfl) (by kernel_rfl)) ?_ | refine And.intro (by kernel_rfl) ?_ | refine aIf_tt (by assumption) ?_ | refine aIf_ff (by assumption) ?_); conv => whnf) | refine aIf_eqt ?_
        | refine aIf_eqf ?_ | refine aIf_not ?_
        | ((first | refine aIf_bself ?_ | refine aIf_beself ?_ | refine aIf_iself ?_ | refine aIf_decself ?_); conv => whnf) | (refine aIf_dec (fun _ => ?_) (fun _ => ?_) <;> conv => whnf) | (refine aIf_beq (fun _ => ?_) (fun _ => ?_) <;> conv => whnf) | (refine aIf_bne (fun _ => ?_) (fun _ => ?_) <;> conv => whnf) | (refine aIf_bbne (fun _ => ?_) (fun _ => ?_) <;> conv => whnf) | (refine aIf_bbeq (fun _ => ?_) (fun _ => ?_) <;> conv => whnf) | (refine aIf_in (fun _ => ?_) (fun _ => ?_) <;> conv => whnf))
      all_goals (first | (exfalso; omega) | skip)
      rename_i L1 l1 k1 a1 L2 l2 k2 a2 L3 l3 k3 a3
      rw [hw]
      refine next_ut (k + 1, L3.set k ⟨(L3.getD k default).op, (L3.getD k default).a, (L3.getD k default).b, marks (m + 3 * (k : Int) + (ntot (ns.take k) : Int) + 3) (L3.getD k default).l.length⟩) (show ns.length - (k + 1) < ns.length - k by omega) ⟨(by omega : k + 1 ≤ ns.length), (show (L3.set k _).length = _ by rw [List.length_set]; omega), fun j => ?_⟩ ?_
      · show ((L3.set k _).getD j default).l.length = _
        rw [getD_setG (by omega)]
        split
        · rename_i e; rw [← e, marks_length]; omega
        · rw [a3, a2, a1, h2]
      · conv => whnf
        refine to_close 0 (0 + (k : Int).toNat * 4 + 3) 1 1 _ 1 3 _ _ rfl (get_setF (by omega) (by decide)) rfl (by decide) (Nat.le_of_ble_eq_true rfl) (by decide) (by simp [marks_length]) ?_
        refine St.le.to ?_
        conv => whnf
        repeat' (first | exact le_setN (by omega) (own_marks _ _ _) | exact int_eq (show m + 3 * (k : Int) + (ntot (ns.take k) : Int) + 3 + ((L3.getD k default).l.length : Int) = m + 3 * ((k + 1 : Nat) : Int) + ntot (ns.take (k + 1)) by omega) | refine And.intro ?_ ?_)
        repeat' (first
          | exact trivial | exact rfl
          | exact pureL_ints _ _ | exact pureL_bools _
          | exact Or.inl (And.intro rfl rfl) | exact Or.inl (And.intro (pureL_box _ _) rfl)
          | exact le_ints rfl | exact le_ints (rep_ints _ _)
          | exact le_bools rfl | exact le_bools (rep_bools _)
          | exact Or.inl (And.intro (pureL_pair _ _ _ _ _ _) rfl) | exact pureL_ii _ _
          | exact pureL_nd _ _ | exact pureL_tn _ _
          | exact Or.inl (And.intro (pureL_oi _ _) rfl) | exact Or.inl (And.intro (pureL_ond _ _) rfl)
          | exact Or.inl (And.intro (pureL_otn _ _) rfl) | exact Or.inl (And.intro (pureL_nd _ _) rfl)
          | refine le_ints ?_ | refine le_bools ?_
          | refine Or.inr ?_ | refine And.intro ?_ ?_
          | exact Nat.le_of_ble_eq_true rfl | exact Nat.zero_le _
          | exact int_eq (by assumption) | exact int_eq (by omega)
          | exact int_eq (Int.add_zero _).symm | exact List.length_append
          | exact int_eq (by rw [IntWalk.i64_in _ (by omega)] <;> omega))
    · have e : k = ns.length := by omega
      have et := ntot_all e
      conv => whnf
      repeat' (first
        | ((first | refine aIf_t ?_ | refine aIf_f ?_ | refine fun (_ : _ ≤ maxLen) => ?_ | refine get_nat0 (by omega) ?_ | refine get_int0 (by omega) ?_ | refine get_nat (by omega) ?_ | refine get_int (by omega) ?_ | refine aGet_in rfl ?_ | refine And.intro (And.intro (Int.le_refl _) (And.intro (by kernel_rfl) (And.intro rfl (by kernel_rfl)))) (And.intro (And.intro (by omega) (And.intro (bytes_le (b := 8) rfl (by omega)) (by omega))) ?_) | refine And.intro (by omega) ?_ | refine load_same ?_ | refine And.intro (by rw [List.length_map]; omega) ?_ | refine And.intro rfl (And.intro (List.cons_ne_nil _ _) ?_) | refine And.intro (Nat.le_of_ble_eq_true rfl) ?_ | refine mark_call rfl (by rfl) (by omega) ?_ | refine callG_t ?_ | refine append_same ?_ | refine get_ii_n (by omega) ?_ | refine get_ii (by omega) ?_ | refine get_nd_n (by omega) rfl ?_ | refine get_nd (by omega) rfl ?_ | refine get_tn_n (by omega) rfl ?_ | refine get_tn (by omega) rfl ?_ | refine part_nd_n (by omega) ?_ | refine part_nd (by omega) ?_ | refine part_tn_n (by omega) ?_ | refine part_tn (by omega) ?_ | refine And.intro (pureL_ii _ _) ?_ | refine And.intro (pureL_nd _ _) ?_ | refine And.intro (pureL_tn _ _) ?_ | refine cut_ii rfl ?_ | refine cut_nd rfl ?_ | refine cut_tn rfl ?_ | refine And.intro (And.intro (Int.le_refl _) (And.intro (by kernel_rfl) (And.intro rfl (by kernel_rfl)))) (And.intro (And.intro (by omega) (And.intro (bytes_le (b := 24) rfl (by omega)) (by omega))) ?_) | refine And.intro (And.intro (Int.le_refl _) (And.intro (by kernel_rfl) (And.intro rfl (by kernel_rfl)))) (And.intro (And.intro (by omega) (And.intro (bytes_le (b := 48) rfl (by omega)) (by omega))) ?_) | refine And.intro rfl (And.intro rfl (And.intro (by rw [fillC_length (by omega)]; omega) ?_)) | refine And.intro rfl (And.intro rfl (And.intro (by rw [fillF_length (ndO_length _) rfl (by omega)]; omega) ?_)) | refine And.intro rfl (And.intro rfl (And.intro (by rw [fillF_length (tnO_length _) rfl (by omega)]; omega) ?_)) | refine And.intro (le_fillF_len (ndO_length _) rfl (by omega)) ?_ | refine And.intro (le_fillF_len (tnO_length _) rfl (by omega)) ?_ | refine set_fillC (by omega) (by omega) ?_ | refine set_fillF (ndO_length _) (by omega) rfl ?_ | refine set_fillF (tnO_length _) (by omega) rfl ?_ | refine And.intro (ond_fit (by omega) (Nat.le_of_ble_eq_true rfl)) ?_ | refine set_ond (by omega) (Nat.le_of_ble_eq_true rfl) ⟨_, rfl⟩ (fun _ _ _ _ => ?_) | refine get_oi_n (by omega) ?_ | refine get_ond_n (by omega) rfl ?_ | refine get_otn_n (by omega) rfl ?_ | refine get_oi (by omega) ?_ | refine get_oi (by omega) ?_ | refine get_oi (by omega) ?_ | refine takeN_in ?_ | refine And.intro (pureL_ints _ _) ?_ | refine And.intro (pureL_take _ _ _) ?_ | refine And.intro (pureL_cut _ _ _ _) ?_ | refine cut_ints ?_ | refine cut_marks ?_ | refine cut_all rfl (scalL_ints _ _) ?_ | refine cut_all (by simp only [List.length_map]; omega) (scalL_ints _ _) ?_ | refine And.intro rfl (And.intro rfl (And.intro (by first | omega | (rw [List.length_map]; omega)) ?_)) | refine set_nat ?_ (by omega) | refine set_int ?_ (by omega) | refine set_bool ?_ (by omega) | refine set_force ?_ | refine get_bool0 (by omega) ?_ | refine And.intro (And.intro (Int.le_refl _) (And.intro (by kernel_rfl) (And.intro rfl (by kernel_rfl)))) (And.intro (And.intro (by omega) (And.intro (bytes_le (b := 1) rfl (by omega)) (by omega))) ?_) | refine And.intro (And.intro (by kernel_rfl) (And.intro rfl (Nat.le_of_ble_eq_true rfl))) ?_ | refine And.intro (And.intro (by kernel_rfl) (by kernel_rfl)) ?_ | refine And.intro (by kernel_rfl) ?_ | refine aIf_tt (by assumption) ?_ | refine aIf_ff (by assumption) ?_); conv => whnf) | refine aIf_eqt ?_
        | refine aIf_eqf ?_ | refine aIf_not ?_
        | ((first | refine aIf_bself ?_ | refine aIf_beself ?_ | refine aIf_iself ?_ | refine aIf_decself ?_); conv => whnf) | (refine aIf_dec (fun _ => ?_) (fun _ => ?_) <;> conv => whnf) | (refine aIf_beq (fun _ => ?_) (fun _ => ?_) <;> conv => whnf) | (refine aIf_bne (fun _ => ?_) (fun _ => ?_) <;> conv => whnf) | (refine aIf_bbne (fun _ => ?_) (fun _ => ?_) <;> conv => whnf) | (refine aIf_bbeq (fun _ => ?_) (fun _ => ?_) <;> conv => whnf) | (refine aIf_in (fun _ => ?_) (fun _ => ?_) <;> conv => whnf))
      all_goals (first | (exfalso; omega) | skip)
      exact retMX L ⟨hL, h2⟩ (protL_ond _ _) (by rw [et, e]) rfl
end Go.Proofs.YtjmdhfjemaoebaaGreat
namespace Go.Am
open Go.RowKit
def fnMX2 {ι β : Type} (t : TypeId) (z : Nat) (t' : TypeId) (z' : Nat) (n n' : ι → Nat) (cells cells' : ι → List AV) (m : ι → Int) (pre : ι → Prop) (r : ι → Int) (out : ι → List AV) (out' : β → List AV) : CSpec :=
  { ι := ι, inout := [true], args := fun x => [.agg [.ref 0 0 0 (n x), .ref 1 0 0 (n' x)], .int .i64 (m x)], ins := fun x => [⟨0, t, z, cells x⟩, ⟨0, t', z', cells' x⟩], pre := pre, post := fun x u ic news => u = .int .i64 (r x) ∧ (∃ y, ic = [out x, out' y]) ∧ news = [] }
theorem callMX2_in {P : Program} {f : FuncId} {ι β : Type} {t t' : TypeId} {z z' : Nat} {n n' : ι → Nat} {cells cells' : ι → List AV} {m : ι → Int} {pre : ι → Prop} {r : ι → Int} {out : ι → List AV} {out' : β → List AV} (hs : Sound P f (fnMX2 t z t' z' n n' cells cells' m pre r out out')) (x : ι) (hpre : pre x) (hp : protL (cells x) = true) (hp' : protL (cells' x) = true) (ho : protL (out x) = true) (ho' : ∀ y, protL (out' y) = true) {env : List AV} {rows : List Row} {ctr low τ1 τ2 v1 v2 n1 n2 : Nat} {i : Int} {k : AV → St → Prop}
    (h1 : rows[τ1]? = some ⟨v1, t, z, cells x⟩) (h2 : rows[τ2]? = some ⟨v2, t', z', cells' x⟩) (hne : τ1 ≠ τ2) (e1 : n1 = n x) (e2 : n2 = n' x) (hi : i = m x) (hk : ∀ y, k (.int .i64 (r x)) ⟨env, setRows rows [τ1, τ2] [out x, out' y], ctr + 1, low⟩) :
    CallG P f ⟨env, rows, ctr, low⟩ [.agg [.ref τ1 v1 0 n1, .ref τ2 v2 0 n2], .int .i64 i] k := by
  subst e1; subst e2; subst hi
  refine .inr ⟨[τ1, τ2], _, hs, [.agg [.ref 0 0 0 (n x), .ref 1 0 0 (n' x)], .int .i64 (m x)], [⟨0, t, z, cells x⟩, ⟨0, t', z', cells' x⟩], by simpa using hne, ?_, ?_, x, rfl, rfl, hpre, ?_⟩
  · have hb : (τ1 == τ2) = false := by simpa using hne
    have ea : callArg ⟨env, rows, ctr, low⟩ [τ1, τ2] true (.agg [.ref τ1 v1 0 (n x), .ref τ2 v2 0 (n' x)]) = some (.agg [.ref 0 0 0 (n x), .ref 1 0 0 (n' x)]) := by
      simp [callArg, AV.ren, renL, h1, h2, List.idxOf, List.findIdx_cons, hb]
    show (callArg ⟨env, rows, ctr, low⟩ [τ1, τ2] true (.agg [.ref τ1 v1 0 (n x), .ref τ2 v2 0 (n' x)])).bind _ = _
    rw [ea]
    rfl
  · simp [insOf, h1, h2, protL_ren hp, protL_ren hp']
  · rintro u ic news ⟨rfl, ⟨y, rfl⟩, rfl⟩ _
    show k (.int .i64 (r x)) ⟨env, setRows rows [τ1, τ2] [backL _ [τ1, τ2] (out x), backL _ [τ1, τ2] (out' y)] ++ [], ctr + 1, low⟩
    rw [List.append_nil, protL_back ho, protL_back (ho' y)]; exact hk y
theorem retMX2 {β : Type} {env : List AV} {ctr : Nat} {t t' : TypeId} {z z' : Nat} {cells cells' o1 o2 out : List AV} {out' : β → List AV} {v1 v2 : Nat} {rest : List Row} {i i' : Int} (y : β) (hp : protL o1 = true) (hp' : protL o2 = true) (e : i = i') (hc : o1 = out) (hc' : o2 = out' y) :
    RetB ⟨env, ⟨v1, t, z, o1⟩ :: ⟨v2, t', z', o2⟩ :: rest, ctr, 2⟩ [⟨0, t, z, cells⟩, ⟨0, t', z', cells'⟩] (fun u ic news => u = .int .i64 i' ∧ (∃ y, ic = [out, out' y]) ∧ news = []) (.int .i64 i) := by
  subst e; subst hc; subst hc'
  refine RetB1.ret ⟨[], [⟨0, t, z, o1⟩, ⟨0, t', z', out' y⟩], .int .i64 i, [o1, out' y], [], (show ([0, 1] : List Nat).Nodup by decide), ?_, rfl, rfl, rfl, rfl, ⟨y, rfl⟩, rfl⟩
  show insOf _ [0, 1] [0, 1] = _
  simp [insOf, protL_ren hp, protL_ren hp']
end Go.Am
namespace Go.Proofs.YtjmdhfjemaoebaaGreat
set_option maxRecDepth 20000
open Go.RowKit Go.Am
attribute [local irreducible] aPlan aGet aIf aLoop aCall RetB NextB CallB CallG aCut aSet aAppend
theorem markN_call {ns : List Nd} {m : Int} {env : List AV} {rows : List Row} {ctr low τ ver n : Nat} {k : AV → St → Prop} (hr : rows[τ]? = some ⟨ver, 75, 4, ns.flatMap (ndO 3)⟩) (hn : n = ns.length) (hpre : ns.length ≤ 1048576 ∧ ntot ns ≤ 1048576 ∧ 0 ≤ m ∧ m ≤ 100000000000)
    (hk : ∀ L : List Nd, k (.int .i64 (m + 3 * ns.length + ntot ns)) ⟨env, setRows rows [τ] [L.flatMap (ndO 3)], ctr + 1, low⟩) : CallG Tryz.prog 48 ⟨env, rows, ctr, low⟩ [.ref τ ver 0 n, .int .i64 m] k :=
  callMX_in markN_sound (ns, m) hpre (protL_ond _ _) (fun L => protL_ond _ L) hr hn rfl fun L _ => hk L
def sMarkE : CSpec := fnMX2 (ι := List (List Int) × List Nd × Int) (β := List Nd) 38 1 75 4 (fun x => x.1.length) (fun x => x.2.1.length) (fun x => x.1.map (ownI 3)) (fun x => x.2.1.flatMap (ndO 3)) (fun x => x.2.2) (fun x => eSize x.1 x.2.1 ≤ 1048576 ∧ 0 ≤ x.2.2 ∧ x.2.2 ≤ 1000000) (fun x => x.2.2 + tot x.1 + 3 * x.2.1.length + ntot x.2.1) (fun x => (marksII x.2.2 x.1).map (ownI 3)) (fun L => L.flatMap (ndO 3))
set_option maxHeartbeats 4000000 in
theorem markExpr_sound : Sound Tryz.prog 13 sMarkE := by
  refine sound_of Tryz.func13 rfl (enters_of Tryz.func13 (by kernel_rfl) (by kernel_rfl)) ?_
  rintro ⟨xss, ns, m⟩ hpre
  have hpre : xss.length + tot xss + (ns.length + ntot ns) ≤ 1048576 ∧ 0 ≤ m ∧ m ≤ 1000000 := hpre
  conv => whnf
  dsimp only
  repeat' (first
    | ((first | refine aGet_in rfl ?_ | refine And.intro rfl (And.intro (List.cons_ne_nil _ _) ?_) | refine markII_call rfl rfl (by omega) ?_ | refine markN_call rfl rfl (by omega) (fun _ => ?_) | refine append_same ?_); conv => whnf))
  rename_i L
  exact retMX2 L (protL_oi _ _) (protL_ond _ _) rfl rfl rfl
theorem markExpr_call {xss : List (List Int)} {ns : List Nd} {m : Int} {env : List AV} {rows : List Row} {ctr low τ1 τ2 v1 v2 n1 n2 : Nat} {k : AV → St → Prop} (h1 : rows[τ1]? = some ⟨v1, 38, 1, xss.map (ownI 3)⟩) (h2 : rows[τ2]? = some ⟨v2, 75, 4, ns.flatMap (ndO 3)⟩) (hne : τ1 ≠ τ2) (e1 : n1 = xss.length) (e2 : n2 = ns.length) (hpre : eSize xss ns ≤ 1048576 ∧ 0 ≤ m ∧ m ≤ 1000000)
    (hk : ∀ L : List Nd, k (.int .i64 (m + tot xss + 3 * ns.length + ntot ns)) ⟨env, setRows rows [τ1, τ2] [(marksII m xss).map (ownI 3), L.flatMap (ndO 3)], ctr + 1, low⟩) : CallG Tryz.prog 13 ⟨env, rows, ctr, low⟩ [.agg [.ref τ1 v1 0 n1, .ref τ2 v2 0 n2], .int .i64 m] k :=
  callMX2_in markExpr_sound (xss, ns, m) hpre (protL_oi _ _) (protL_ond _ _) (protL_oi _ _) (fun L => protL_ond _ L) h1 h2 hne e1 e2 rfl hk
end Go.Proofs.YtjmdhfjemaoebaaGreat
namespace Go.Proofs.YtjmdhfjemaoebaaGreat
set_option maxRecDepth 20000
open Go.RowKit Go.Am
set_option linter.unusedSimpArgs false
attribute [local irreducible] aPlan aGet aIf aLoop aCall RetB NextB CallB CallG aCut aSet aAppend
theorem cut_marksII {f : Nat} {t : TypeId} {xss : List (List Int)} {m : Int} {n : Nat} {k : List AV → Prop} (hn : n = xss.length) (hk : k ((marksII m xss).map (slI 0))) : aCut (f + 2) ((marksII m xss).map (ownI t)) 0 (n * 1) k := cut_ii (by rw [hn, marksII_length]) hk
end Go.Proofs.YtjmdhfjemaoebaaGreat
namespace Go.Proofs.YtjmdhfjemaoebaaGreat
set_option maxRecDepth 20000
open Go.RowKit Go.Am
set_option linter.unusedSimpArgs false
theorem flat_split {α : Type} {f : α → List AV} {z : Nat} (hz : ∀ x, (f x).length = z) (d : α) {l : List α} {k : Nat} (hk : k < l.length) : ∃ A B : List AV, A.length = k * z ∧ l.flatMap f = A ++ (f (l.getD k d) ++ B) ∧ ∀ y, (l.set k y).flatMap f = A ++ (f y ++ B) := by
  refine ⟨(l.take k).flatMap f, (l.drop (k + 1)).flatMap f, by rw [flat_len hz, List.length_take, Nat.min_eq_left (Nat.le_of_lt hk)], ?_, fun y => ?_⟩
  · conv => lhs; rw [← List.take_append_drop k l, List.drop_eq_getElem_cons hk]
    rw [List.flatMap_append, List.flatMap_cons]
    simp [List.getD, List.getElem?_eq_getElem hk]
  · rw [List.set_eq_take_append_cons_drop, if_pos hk, List.flatMap_append, List.flatMap_cons]
theorem get_otn_2 {t : TypeId} {k : Nat} {ns : List T2} {r : AV} {K : AV → Prop} (h : k < ns.length) (hK : K (ownI t (ns.getD k ([], [])).2)) : aGet (((ns.flatMap (tnO t)).set (0 + (k : Int).toNat * 2 + 0) r).drop (0 + (k : Int).toNat * 2 + 1)) 0 K := by
  obtain ⟨A, B, hA, e, -⟩ := flat_split (tnO_length t) ([], []) h
  refine ⟨_, ?_, hK⟩
  rw [e, List.getElem?_drop, Nat.add_zero, set_mid (i := 0) (by rw [hA]; simp) (by simp [tnO])]
  exact get_mid (i := 1) (by rw [hA]; simp) rfl
theorem get_c0 {t : TypeId} {k : Nat} {ns : List T2} {r s : AV} (h : k < ns.length) : (((ns.flatMap (tnO t)).set (0 + (k : Int).toNat * 2 + 0) r).set (0 + (k : Int).toNat * 2 + 1) s)[0 + (k : Int).toNat * 2 + 0]? = some r := by
  obtain ⟨A, B, hA, e, -⟩ := flat_split (tnO_length t) ([], []) h
  rw [e, set_mid (i := 0) (by rw [hA]; simp) (by simp [tnO]), set_mid (i := 1) (by rw [hA]; simp) (by simp [tnO])]
  exact get_mid (i := 0) (by rw [hA]; simp) rfl
theorem get_c1 {t : TypeId} {k : Nat} {ns : List T2} {r s x : AV} (h : k < ns.length) : ((((ns.flatMap (tnO t)).set (0 + (k : Int).toNat * 2 + 0) r).set (0 + (k : Int).toNat * 2 + 1) s).set (0 + (k : Int).toNat * 2 + 0) x)[0 + (k : Int).toNat * 2 + 1]? = some s := by
  obtain ⟨A, B, hA, e, -⟩ := flat_split (tnO_length t) ([], []) h
  rw [e, set_mid (i := 0) (by rw [hA]; simp) (by simp [tnO]), set_mid (i := 1) (by rw [hA]; simp) (by simp [tnO]), set_mid (i := 0) (by rw [hA]; simp) (by simp [tnO])]
  exact get_mid (i := 1) (by rw [hA]; simp) rfl
theorem le_setT {t : TypeId} {k : Nat} {ns : List T2} {r s x y : AV} {xs ys : List Int} {p : Prop} (h : k < ns.length) (hx : x = ownI t xs) (hy : y = ownI t ys) :
    (pureL (((((ns.flatMap (tnO t)).set (0 + (k : Int).toNat * 2 + 0) r).set (0 + (k : Int).toNat * 2 + 1) s).set (0 + (k : Int).toNat * 2 + 0) x).set (0 + (k : Int).toNat * 2 + 1) y) = true ∧ (ns.set k (xs, ys)).flatMap (tnO t) = ((((ns.flatMap (tnO t)).set (0 + (k : Int).toNat * 2 + 0) r).set (0 + (k : Int).toNat * 2 + 1) s).set (0 + (k : Int).toNat * 2 + 0) x).set (0 + (k : Int).toNat * 2 + 1) y) ∨ p := by
  refine le_cells ?_ (pureL_flat (tnO_pure t) _)
  obtain ⟨A, B, hA, e, e'⟩ := flat_split (tnO_length t) ([], []) h
  rw [e, e', set_mid (i := 0) (by rw [hA]; simp) (by simp [tnO]), set_mid (i := 1) (by rw [hA]; simp) (by simp [tnO]), set_mid (i := 0) (by rw [hA]; simp) (by simp [tnO]), set_mid (i := 1) (by rw [hA]; simp) (by simp [tnO]), hx, hy]
  rfl
attribute [local irreducible] aPlan aGet aIf aLoop aCall RetB NextB CallB CallG aCut aSet aAppend
def marksTT (m : Int) : List T2 → List T2
  | [] => []
  | t :: ts => (marks m t.1.length, marks (m + t.1.length) t.2.length) :: marksTT (m + t.1.length + t.2.length) ts
theorem marksTT_length : ∀ (m : Int) (ts : List T2), (marksTT m ts).length = ts.length
  | _, [] => rfl
  | m, t :: ts => by simp [marksTT, marksTT_length]
theorem marksTT_getD : ∀ (m : Int) (ts : List T2) (k : Nat), k < ts.length → (marksTT m ts).getD k ([], []) = (marks (m + ttot (ts.take k)) (ts.getD k ([], [])).1.length, marks (m + ttot (ts.take k) + (ts.getD k ([], [])).1.length) (ts.getD k ([], [])).2.length)
  | m, t :: ts, 0, _ => by simp [marksTT, ttot]
  | m, t :: ts, k + 1, h => by
    have h' : k < ts.length := by simpa using h
    have := marksTT_getD (m + t.1.length + t.2.length) ts k h'
    have e : ttot (t :: ts.take k) = t.1.length + t.2.length + ttot (ts.take k) := by simp [ttot]
    show (marksTT (m + t.1.length + t.2.length) ts).getD k ([], []) = (marks (m + ttot (t :: ts.take k)) (ts.getD k ([], [])).1.length, marks (m + ttot (t :: ts.take k) + (ts.getD k ([], [])).1.length) (ts.getD k ([], [])).2.length)
    rw [this, e]
    have e1 : m + (t.1.length : Int) + t.2.length + ttot (ts.take k) = m + ((t.1.length + t.2.length + ttot (ts.take k) : Nat) : Int) := by omega
    rw [e1]
def sMarkTs : CSpec := fnMR (ι := List T2 × Int) 40 2 (fun x => x.1.length) (fun x => x.1.flatMap (tnO 3)) (fun x => x.2) (fun x => x.1.length ≤ 1048576 ∧ ttot x.1 ≤ 1048576 ∧ 0 ≤ x.2 ∧ x.2 ≤ 100000000000) (fun x => x.2 + ttot x.1) (fun x => (marksTT x.2 x.1).flatMap (tnO 3))
set_option maxHeartbeats 4000000 in
theorem markTs_sound : Sound Tryz.prog 21 sMarkTs := by
  refine sound_of Tryz.func21 rfl (enters_of Tryz.func21 (by kernel_rfl) (by kernel_rfl)) ?_
  rintro ⟨ts, m⟩ hpre
  have hpre : ts.length ≤ 1048576 ∧ ttot ts ≤ 1048576 ∧ 0 ≤ m ∧ m ≤ 100000000000 := hpre
  have hmax : maxLen = 9223372036854775807 := rfl
  conv => whnf
  dsimp only
  repeat' (first
    | (refine append_same ?_; conv => whnf))
  refine loop_u (ι := Nat × List T2) [true, true, false, false, false, true, false, false, false, false, false, false, false, false, false, false, false, false, false, false, false, false, false, false, false, false, false] (fun | (k, _) => [(1, .int .i64 (m + ttot (ts.take k))), (5, .int .i64 k)]) (fun | (_, L) => [(0, L.flatMap (tnO 3))]) (fun | (k, L) => k ≤ ts.length ∧ L.length = ts.length ∧ (∀ j, j < k → L.getD j ([], []) = (marksTT m ts).getD j ([], [])) ∧ ∀ j, k ≤ j → L.getD j ([], []) = ts.getD j ([], [])) (fun x => ts.length - x.1) ((0, ts)) ⟨Nat.zero_le _, rfl, fun j hj => absurd hj (Nat.not_lt_zero _), fun _ _ => rfl⟩ ?_ ?_
  · conv => whnf
    repeat' (first | exact int_eq (show m = m + ttot (ts.take 0) by simp [ttot]) | exact Or.inl (And.intro (pureL_otn _ _) rfl) | refine And.intro ?_ ?_)
    repeat' (first
      | exact trivial | exact rfl
      | exact Nat.le_of_ble_eq_true rfl)
  · rintro ⟨k, L⟩ ⟨hk, hL, h1, h2⟩
    have hk : k ≤ ts.length := hk
    have hL : L.length = ts.length := hL
    have h1 : ∀ j, j < k → L.getD j ([], []) = (marksTT m ts).getD j ([], []) := h1
    have h2 : ∀ j, k ≤ j → L.getD j ([], []) = ts.getD j ([], []) := h2
    have ht' : ttot (ts.take k) ≤ ttot ts := sum_take_le (fun t : T2 => t.1.length + t.2.length) ts k
    by_cases hlt : k < ts.length
    · have e2 := h2 k (Nat.le_refl _)
      have hl1 : (L.getD k ([], [])).1.length = (ts.getD k ([], [])).1.length := by rw [e2]
      have hl2 : (L.getD k ([], [])).2.length = (ts.getD k ([], [])).2.length := by rw [e2]
      have hl := len_le_ttot hlt
      have hs := ttot_succ hlt
      conv => whnf
      repeat' (first
        | ((first | refine fun (_ : _ ≤ maxLen) => ?_ | refine And.intro (by omega) ?_ | refine mark_call rfl (by rfl) (by omega) ?_ | refine append_same ?_ | refine get_otn_n (by omega) rfl ?_ | refine get_otn_2 (by omega) ?_); conv => whnf) | (refine aIf_dec (fun _ => ?_) (fun _ => ?_) <;> conv => whnf))
      all_goals (first | (exfalso; omega) | skip)
      refine next_ut (k + 1, L.set k (marks (m + ttot (ts.take k)) (L.getD k ([], [])).1.length, marks (m + ttot (ts.take k) + (L.getD k ([], [])).1.length) (L.getD k ([], [])).2.length)) (show ts.length - (k + 1) < ts.length - k by omega) ⟨(by omega : k + 1 ≤ ts.length), (by rw [List.length_set]; exact hL : (L.set k _).length = ts.length), fun j hj => ?_, fun j hj => ?_⟩ ?_
      · have hj : j < k + 1 := hj
        rw [getD_setG (by omega)]
        split
        · rename_i e; rw [← e, marksTT_getD m ts k hlt, hl1, hl2]
        · exact h1 j (by omega)
      · have hj : k + 1 ≤ j := hj
        rw [getD_setG (by omega), if_neg (by omega)]
        exact h2 j (by omega)
      · conv => whnf
        refine to_close 0 (0 + (k : Int).toNat * 2 + 0) 1 1 _ 1 3 _ _ rfl (get_c0 (by omega)) rfl (by decide) (Nat.le_of_ble_eq_true rfl) (by decide) (by simp [marks_length]) ?_
        refine to_close 0 (0 + (k : Int).toNat * 2 + 1) 2 3 _ 1 3 _ _ rfl (get_c1 (by omega)) rfl (by decide) (Nat.le_of_ble_eq_true rfl) (by decide) (by simp [marks_length]) ?_
        refine St.le.to ?_
        conv => whnf
        repeat' (first | exact le_setT (by omega) (own_marks _ _ _) (own_marks _ _ _) | exact int_eq (show m + ttot (ts.take k) + ((L.getD k ([], [])).1.length : Int) + ((L.getD k ([], [])).2.length : Int) = m + ttot (ts.take (k + 1)) by omega) | refine And.intro ?_ ?_)
        repeat' (first
          | exact trivial | exact rfl
          | exact Nat.le_of_ble_eq_true rfl | exact int_eq (by rw [IntWalk.i64_in _ (by omega)] <;> omega))
    · have e : k = ts.length := by omega
      have et := ttot_all e
      have eL : L = marksTT m ts := getD_extG (d := ([], [])) (by rw [marksTT_length]; exact hL) fun j hj => h1 j (by rw [marksTT_length] at hj; omega)
      conv => whnf
      repeat' (first
        | ((first | refine fun (_ : _ ≤ maxLen) => ?_ | refine And.intro (by omega) ?_ | refine mark_call rfl (by rfl) (by omega) ?_ | refine append_same ?_ | refine get_otn_n (by omega) rfl ?_ | refine get_otn_2 (by omega) ?_); conv => whnf) | (refine aIf_dec (fun _ => ?_) (fun _ => ?_) <;> conv => whnf))
      all_goals (first | (exfalso; omega) | skip)
      exact retMR (protL_otn _ _) (by rw [et]) (by rw [eL])
theorem markTs_call {ts : List T2} {m : Int} {env : List AV} {rows : List Row} {ctr low τ ver n : Nat} {k : AV → St → Prop} (hr : rows[τ]? = some ⟨ver, 40, 2, ts.flatMap (tnO 3)⟩) (hn : n = ts.length) (hpre : ts.length ≤ 1048576 ∧ ttot ts ≤ 1048576 ∧ 0 ≤ m ∧ m ≤ 100000000000)
    (hk : k (.int .i64 (m + ttot ts)) ⟨env, setRows rows [τ] [(marksTT m ts).flatMap (tnO 3)], ctr + 1, low⟩) : CallG Tryz.prog 21 ⟨env, rows, ctr, low⟩ [.ref τ ver 0 n, .int .i64 m] k :=
  callMR_in markTs_sound (ts, m) hpre (protL_otn _ _) (protL_otn _ _) hr hn rfl hk
theorem heldTs_sound : Sound Tryz.prog 28 (fnS (ι := Nat × List T2 × Int) (fun | (c, ts, m) => [.sl c ts.length ((marksTT m ts).flatMap (tnC c)), .int .i64 m]) (fun | (_, ts, m) => ts.length ≤ 1048576 ∧ ttot ts ≤ 1048576 ∧ 0 ≤ m ∧ m ≤ 100000000000) (fun | (_, ts, m) => .int .i64 (m + ttot ts))) := by
  refine sound_of Tryz.func28 rfl (enters_of Tryz.func28 (by kernel_rfl) (by kernel_rfl)) ?_
  rintro ⟨c, ts, m⟩ hpre
  have hpre : ts.length ≤ 1048576 ∧ ttot ts ≤ 1048576 ∧ 0 ≤ m ∧ m ≤ 100000000000 := hpre
  have hmax : maxLen = 9223372036854775807 := rfl
  have hML := marksTT_length m ts
  conv => whnf
  repeat' (first
    | (refine append_same ?_; conv => whnf))
  refine loop_u (ι := Nat) [true, true, false, false, false, true, false, false, false, false, false, false, false, false, false, false, false, false, false, false, false, false, false, false, false, false, false, false, false, false, false] (fun k => [(1, .int .i64 (m + ttot (ts.take k))), (5, .int .i64 k)]) (fun _ => []) (fun k => k ≤ ts.length) (fun k => ts.length - k) (0) (Nat.zero_le _) ?_ ?_
  · conv => whnf
    repeat' (first
      | exact trivial | exact rfl
      | exact pureL_tn _ _ | refine And.intro ?_ ?_
      | exact Nat.le_of_ble_eq_true rfl | exact int_eq (Int.add_zero _).symm)
    all_goals exact int_eq (by simp [ttot])
  · rintro k hk
    have hk : k ≤ ts.length := hk
    by_cases hlt : k < ts.length
    · have hg := marksTT_getD m ts k hlt
      have hs := ttot_succ hlt
      have hl := len_le_ttot hlt
      have ht : ttot (ts.take (k + 1)) ≤ ttot ts := sum_take_le (fun t : T2 => t.1.length + t.2.length) ts (k + 1)
      have hg1 : ((marksTT m ts).getD k ([], [])).1 = marks (m + ttot (ts.take k)) (ts.getD k ([], [])).1.length := by rw [hg]
      have hg2 : ((marksTT m ts).getD k ([], [])).2 = marks (m + ttot (ts.take k) + (ts.getD k ([], [])).1.length) (ts.getD k ([], [])).2.length := by rw [hg]
      have hgl : ((marksTT m ts).getD k ([], [])).1.length = (ts.getD k ([], [])).1.length := by rw [hg1, marks_length]
      have hgl2 : ((marksTT m ts).getD k ([], [])).2.length = (ts.getD k ([], [])).2.length := by rw [hg2, marks_length]
      conv => whnf
      repeat' (first
        | ((first | refine fun (_ : _ ≤ maxLen) => ?_ | refine And.intro (by omega) ?_ | refine callG_t ?_ | refine append_same ?_ | refine get_tn_n (by omega) rfl ?_ | refine And.intro (pureL_ints _ _) ?_); conv => whnf) | (refine aIf_dec (fun _ => ?_) (fun _ => ?_) <;> conv => whnf))
      all_goals (first | (exfalso; omega) | skip)
      refine held_call (m := m + ttot (ts.take k)) (by omega) ?_
      rw [if_pos (by rw [hgl]; exact hg1), hgl]
      conv => whnf
      repeat' (first
        | ((first | refine And.intro (by omega) ?_ | refine callG_t ?_ | refine append_same ?_ | refine get_tn_n (by omega) rfl ?_ | refine And.intro (pureL_ints _ _) ?_); conv => whnf) | (refine aIf_dec (fun _ => ?_) (fun _ => ?_) <;> conv => whnf))
      all_goals (first | (exfalso; omega) | skip)
      refine held_call (m := m + ttot (ts.take k) + (ts.getD k ([], [])).1.length) (by omega) ?_
      rw [if_pos (by rw [hgl2]; exact hg2), hgl2]
      conv => whnf
      repeat' (first
        | (refine append_same ?_; conv => whnf) | (refine aIf_dec (fun _ => ?_) (fun _ => ?_) <;> conv => whnf))
      all_goals (first | (exfalso; omega) | skip)
      refine next_u (k + 1) (show ts.length - (k + 1) < ts.length - k by omega) (by exact (by omega : k + 1 ≤ ts.length)) ?_
      conv => whnf
      repeat' (first
        | exact trivial | exact rfl
        | exact pureL_tn _ _ | refine And.intro ?_ ?_
        | exact Nat.le_of_ble_eq_true rfl | exact int_eq (by omega)
        | exact int_eq (by rw [IntWalk.i64_in _ (by omega)] <;> omega))
      all_goals (first | exact int_eq (by omega) | skip)
    · have e := ttot_all (show k = ts.length by omega)
      conv => whnf
      repeat' (first
        | ((first | refine fun (_ : _ ≤ maxLen) => ?_ | refine And.intro (by omega) ?_ | refine callG_t ?_ | refine append_same ?_ | refine get_tn_n (by omega) rfl ?_); conv => whnf) | (refine aIf_dec (fun _ => ?_) (fun _ => ?_) <;> conv => whnf))
      all_goals (first | (exfalso; omega) | skip)
      exact retS rfl (int_eq (by rw [e]))
theorem cut_marksTT {f : Nat} {t : TypeId} {ts : List T2} {m : Int} {n : Nat} {k : List AV → Prop} (hn : n = ts.length) (hk : k ((marksTT m ts).flatMap (tnC 0))) : aCut (f + 2) ((marksTT m ts).flatMap (tnO t)) 0 (n * 2) k := cut_tn (by rw [hn, marksTT_length]) hk
theorem heldTs_call {c n : Nat} {ts : List T2} {m : Int} {env : List AV} {rows : List Row} {ctr low : Nat} {k : AV → St → Prop} (hn : n = ts.length) (hpre : ts.length ≤ 1048576 ∧ ttot ts ≤ 1048576 ∧ 0 ≤ m ∧ m ≤ 100000000000) (h : k (.int .i64 (m + ttot ts)) ⟨env, rows, ctr + 1, low⟩) :
    CallB Tryz.prog 28 ⟨env, rows, ctr, low⟩ [.sl c n ((marksTT m ts).flatMap (tnC c)), .int .i64 m] k := by
  subst hn
  exact callS_in heldTs_sound (c, ts, m) hpre rfl h
end Go.Proofs.YtjmdhfjemaoebaaGreat
