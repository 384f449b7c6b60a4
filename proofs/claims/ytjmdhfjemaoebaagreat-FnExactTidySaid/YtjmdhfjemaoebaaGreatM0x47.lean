import Derived.Test.YtjmdhfjemaoebaaGreatM0x33
import Derived.Test.YtjmdhfjemaoebaaGreatM0x15
import Derived.Test.YtjmdhfjemaoebaaGreatM0x34
namespace Go.Proofs.YtjmdhfjemaoebaaGreat
set_option maxRecDepth 20000
open Go.RowKit Go.Am
attribute [local irreducible] aPlan aGet aIf aLoop aCall RetB NextB CallB CallG aCut aSet aAppend
def marksII (m : Int) : List (List Int) → List (List Int)
  | [] => []
  | xs :: xss => marks m xs.length :: marksII (m + xs.length) xss
theorem marksII_length : ∀ (m : Int) (xss : List (List Int)), (marksII m xss).length = xss.length
  | _, [] => rfl
  | m, xs :: xss => by simp [marksII, marksII_length]
theorem marksII_getD : ∀ (m : Int) (xss : List (List Int)) (k : Nat), k < xss.length → (marksII m xss).getD k [] = marks (m + tot (xss.take k)) (xss.getD k []).length
  | m, xs :: xss, 0, _ => by simp [marksII, tot]
  | m, xs :: xss, k + 1, h => by
    have h' : k < xss.length := by simpa using h
    have := marksII_getD (m + xs.length) xss k h'
    show (marksII (m + xs.length) xss).getD k [] = marks (m + tot (xs :: xss.take k)) (xss.getD k []).length
    rw [this]
    have e : tot (xs :: xss.take k) = xs.length + tot (xss.take k) := by simp [tot]
    rw [e]; congr 1; omega
theorem own_marks (t : TypeId) (m : Int) (n : Nat) : AV.own t 1 n ((marks m n).map (.int .i64)) = ownI t (marks m n) := by unfold ownI; rw [marks_length]
def sMarkII : CSpec := fnMR (ι := List (List Int) × Int) 38 1 (fun x => x.1.length) (fun x => x.1.map (ownI 3)) (fun x => x.2) (fun x => x.1.length ≤ 1048576 ∧ tot x.1 ≤ 1048576 ∧ 0 ≤ x.2 ∧ x.2 ≤ 100000000000) (fun x => x.2 + tot x.1) (fun x => (marksII x.2 x.1).map (ownI 3))
set_option maxHeartbeats 4000000 in
theorem markII_sound : Sound Tryz.prog 47 sMarkII := by
  refine sound_of Tryz.func47 rfl (enters_of Tryz.func47 (by kernel_rfl) (by kernel_rfl)) ?_
  rintro ⟨xss, m⟩ hpre
  have hpre : xss.length ≤ 1048576 ∧ tot xss ≤ 1048576 ∧ 0 ≤ m ∧ m ≤ 100000000000 := hpre
  have hmax : maxLen = 9223372036854775807 := rfl
  conv => whnf
  dsimp only
  repeat' (first
    | (refine append_same ?_; conv => whnf))
  refine loop_u (ι := Nat × List (List Int)) [true, true, false, false, false, true, false, false, false, false, false, false, false, false, false, false, false, false, false] (fun | (k, _) => [(1, .int .i64 (m + tot (xss.take k))), (5, .int .i64 k)]) (fun | (_, L) => [(0, L.map (ownI 3))]) (fun | (k, L) => k ≤ xss.length ∧ L.length = xss.length ∧ (∀ j, j < k → L.getD j [] = (marksII m xss).getD j []) ∧ (∀ j, k ≤ j → L.getD j [] = xss.getD j [])) (fun x => xss.length - x.1) ((0, xss)) ⟨Nat.zero_le _, rfl, fun j hj => absurd hj (Nat.not_lt_zero _), fun _ _ => rfl⟩ ?_ ?_
  · conv => whnf
    repeat' (first | exact Or.inl (And.intro (pureL_oi _ _) rfl) | refine And.intro ?_ ?_)
    repeat' (first
      | exact trivial | exact rfl
      | exact Nat.le_of_ble_eq_true rfl | exact int_eq (Int.add_zero _).symm)
    all_goals exact int_eq (by simp [tot])
  · rintro ⟨k, L⟩ ⟨hk, hL, h1, h2⟩
    have hk : k ≤ xss.length := hk
    have hL : L.length = xss.length := hL
    have h1 : ∀ j, j < k → L.getD j [] = (marksII m xss).getD j [] := h1
    have h2 : ∀ j, k ≤ j → L.getD j [] = xss.getD j [] := h2
    have ht := sum_take_le List.length xss k
    have ht' : tot (xss.take k) ≤ tot xss := ht
    by_cases hlt : k < xss.length
    · have e2 := h2 k (Nat.le_refl _)
      have hll : (L.getD k []).length = (xss.getD k []).length := by rw [e2]
      have hl := len_le_tot hlt
      have hs := tot_succ hlt
      conv => whnf
      repeat' (first
        | ((first | refine fun (_ : _ ≤ maxLen) => ?_ | refine And.intro (by omega) ?_ | refine mark_call rfl (by rfl) (by omega) ?_ | refine append_same ?_ | refine get_oi_n (by omega) ?_); conv => whnf) | (refine aIf_dec (fun _ => ?_) (fun _ => ?_) <;> conv => whnf))
      all_goals (first | (exfalso; omega) | skip)
      refine next_ut (k + 1, L.set k (marks (m + tot (xss.take k)) (L.getD k []).length)) (show xss.length - (k + 1) < xss.length - k by omega) ⟨(by omega : k + 1 ≤ xss.length), (by rw [List.length_set]; exact hL : (L.set k _).length = xss.length), fun j hj => ?_, fun j hj => ?_⟩ ?_
      · have hj : j < k + 1 := hj
        show (L.set k _).getD j [] = _
        rw [getD_setG (by omega)]
        split
        · rename_i e; rw [← e, marksII_getD m xss k hlt, hll]
        · exact h1 j (by omega)
      · have hj : k + 1 ≤ j := hj
        show (L.set k _).getD j [] = _
        rw [getD_setG (by omega), if_neg (by omega)]
        exact h2 j (by omega)
      · conv => whnf
        refine to_close 0 (0 + (k : Int).toNat * 1) 1 1 _ 1 3 _ _ rfl (get_setC (by omega)) rfl (by decide) (Nat.le_of_ble_eq_true rfl) (by decide) (by simp [marks_length]) ?_
        refine St.le.to ?_
        conv => whnf
        repeat' (first | exact le_setC (by omega) (own_marks _ _ _) (ownI_pure _) | refine And.intro ?_ ?_)
        repeat' (first
          | exact trivial | exact rfl
          | exact Nat.le_of_ble_eq_true rfl | exact int_eq (by omega)
          | exact int_eq (by rw [IntWalk.i64_in _ (by omega)] <;> omega))
    · have e : k = xss.length := by omega
      have et := tot_all e
      have eL : L = marksII m xss := getD_extG (d := []) (by rw [marksII_length]; exact hL) fun j hj => h1 j (by rw [marksII_length] at hj; omega)
      conv => whnf
      repeat' (first
        | ((first | refine fun (_ : _ ≤ maxLen) => ?_ | refine And.intro (by omega) ?_ | refine mark_call rfl (by rfl) (by omega) ?_ | refine append_same ?_ | refine get_oi_n (by omega) ?_); conv => whnf) | (refine aIf_dec (fun _ => ?_) (fun _ => ?_) <;> conv => whnf))
      all_goals (first | (exfalso; omega) | skip)
      exact retMR (protL_oi _ _) (by rw [et]) (by rw [eL])
theorem markII_call {xss : List (List Int)} {m : Int} {env : List AV} {rows : List Row} {ctr low τ ver n : Nat} {k : AV → St → Prop} (hr : rows[τ]? = some ⟨ver, 38, 1, xss.map (ownI 3)⟩) (hn : n = xss.length) (hpre : xss.length ≤ 1048576 ∧ tot xss ≤ 1048576 ∧ 0 ≤ m ∧ m ≤ 100000000000)
    (hk : k (.int .i64 (m + tot xss)) ⟨env, setRows rows [τ] [(marksII m xss).map (ownI 3)], ctr + 1, low⟩) : CallG Tryz.prog 47 ⟨env, rows, ctr, low⟩ [.ref τ ver 0 n, .int .i64 m] k :=
  callMR_in markII_sound (xss, m) hpre (protL_oi _ _) (protL_oi _ _) hr hn rfl hk
end Go.Proofs.YtjmdhfjemaoebaaGreat
namespace Go.Proofs.YtjmdhfjemaoebaaGreat
set_option maxRecDepth 20000
open Go.RowKit Go.Am
set_option linter.unusedSimpArgs false
attribute [local irreducible] aPlan aGet aIf aLoop aCall RetB NextB CallB CallG aCut aSet aAppend
theorem heldIntSS_sound : Sound Tryz.prog 49 (fnS (ι := Nat × List (List Int) × Int) (fun | (c, xss, m) => [.sl c xss.length ((marksII m xss).map (slI c)), .int .i64 m]) (fun | (_, xss, m) => xss.length ≤ 1048576 ∧ tot xss ≤ 1048576 ∧ 0 ≤ m ∧ m ≤ 100000000000) (fun | (_, xss, m) => .int .i64 (m + tot xss))) := by
  refine sound_of Tryz.func49 rfl (enters_of Tryz.func49 (by kernel_rfl) (by kernel_rfl)) ?_
  rintro ⟨c, xss, m⟩ hpre
  have hpre : xss.length ≤ 1048576 ∧ tot xss ≤ 1048576 ∧ 0 ≤ m ∧ m ≤ 100000000000 := hpre
  have hmax : maxLen = 9223372036854775807 := rfl
  have hML := marksII_length m xss
  conv => whnf
  repeat' (first
    | (refine append_same ?_; conv => whnf))
  refine loop_u (ι := Nat) [true, true, false, false, false, true, false, false, false, false, false, false, false, false, false, false, false, false, false, false, false] (fun k => [(1, .int .i64 (m + tot (xss.take k))), (5, .int .i64 k)]) (fun _ => []) (fun k => k ≤ xss.length) (fun k => xss.length - k) (0) (Nat.zero_le _) ?_ ?_
  · conv => whnf
    repeat' (first
      | exact trivial | exact rfl
      | exact pureL_ii _ _ | refine And.intro ?_ ?_
      | exact Nat.le_of_ble_eq_true rfl | exact int_eq (Int.add_zero _).symm)
    all_goals exact int_eq (by simp [tot])
  · rintro k hk
    have hk : k ≤ xss.length := hk
    by_cases hlt : k < xss.length
    · have hg := marksII_getD m xss k hlt
      have hs := tot_succ hlt
      have hl := len_le_tot hlt
      have ht : tot (xss.take (k + 1)) ≤ tot xss := sum_take_le List.length xss (k + 1)
      have hgl : ((marksII m xss).getD k []).length = (xss.getD k []).length := by rw [hg, marks_length]
      conv => whnf
      repeat' (first
        | ((first | refine fun (_ : _ ≤ maxLen) => ?_ | refine And.intro (by omega) ?_ | refine callG_t ?_ | refine append_same ?_ | refine get_ii_n (by omega) ?_ | refine And.intro (pureL_ints _ _) ?_); conv => whnf) | (refine aIf_dec (fun _ => ?_) (fun _ => ?_) <;> conv => whnf))
      all_goals (first | (exfalso; omega) | skip)
      refine held_call (m := m + tot (xss.take k)) (by omega) ?_
      rw [if_pos (by rw [hgl]; exact hg), hgl]
      conv => whnf
      repeat' (first
        | (refine append_same ?_; conv => whnf) | (refine aIf_dec (fun _ => ?_) (fun _ => ?_) <;> conv => whnf))
      all_goals (first | (exfalso; omega) | skip)
      refine next_u (k + 1) (show xss.length - (k + 1) < xss.length - k by omega) (by exact (by omega : k + 1 ≤ xss.length)) ?_
      conv => whnf
      repeat' (first
        | exact trivial | exact rfl
        | exact pureL_ii _ _ | refine And.intro ?_ ?_
        | exact Nat.le_of_ble_eq_true rfl | exact int_eq (by omega)
        | exact int_eq (by rw [IntWalk.i64_in _ (by omega)] <;> omega))
      all_goals (first | exact int_eq (by omega) | skip)
    · have e := tot_all (show k = xss.length by omega)
      conv => whnf
      repeat' (first
        | ((first | refine fun (_ : _ ≤ maxLen) => ?_ | refine And.intro (by omega) ?_ | refine callG_t ?_ | refine append_same ?_ | refine get_ii_n (by omega) ?_); conv => whnf) | (refine aIf_dec (fun _ => ?_) (fun _ => ?_) <;> conv => whnf))
      all_goals (first | (exfalso; omega) | skip)
      exact retS rfl (int_eq (by rw [e]))
theorem cut_marksII {f : Nat} {t : TypeId} {xss : List (List Int)} {m : Int} {n : Nat} {k : List AV → Prop} (hn : n = xss.length) (hk : k ((marksII m xss).map (slI 0))) : aCut (f + 2) ((marksII m xss).map (ownI t)) 0 (n * 1) k := cut_ii (by rw [hn, marksII_length]) hk
theorem heldIntSS_call {c n : Nat} {xss : List (List Int)} {m : Int} {env : List AV} {rows : List Row} {ctr low : Nat} {k : AV → St → Prop} (hn : n = xss.length) (hpre : xss.length ≤ 1048576 ∧ tot xss ≤ 1048576 ∧ 0 ≤ m ∧ m ≤ 100000000000) (h : k (.int .i64 (m + tot xss)) ⟨env, rows, ctr + 1, low⟩) :
    CallB Tryz.prog 49 ⟨env, rows, ctr, low⟩ [.sl c n ((marksII m xss).map (slI c)), .int .i64 m] k := by
  subst hn
  exact callS_in heldIntSS_sound (c, xss, m) hpre rfl h
end Go.Proofs.YtjmdhfjemaoebaaGreat
namespace Go.Am
open Go.RowKit
end Go.Am
namespace Go.Proofs.YtjmdhfjemaoebaaGreat
set_option maxRecDepth 20000
open Go.RowKit Go.Am
attribute [local irreducible] aPlan aGet aIf aLoop aCall RetB NextB CallB CallG aCut aSet aAppend
end Go.Proofs.YtjmdhfjemaoebaaGreat
