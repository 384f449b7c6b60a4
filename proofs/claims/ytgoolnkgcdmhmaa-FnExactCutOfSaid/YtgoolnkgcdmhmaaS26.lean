/- Chapter 2: CutOf. -/
import Derived.Test.YtgoolnkgcdmhmaaS25
import Derived.Test.YtgoolnkgcdmhmaaS11
import Derived.Test.YtgoolnkgcdmhmaaP15
namespace Go.Proofs.Ytgoolnkgcdmhmaa
open Go.RowKit Go.Am
attribute [local irreducible] aPlan aGet aIf aLoop aCall RetB NextB CallB CallG aCut aSet aAppend

def cutP (xs zs : List Int) (i f m : Int) : Prop := tensorOk xs zs = true ∧ (0 ≤ i ∧ i < xs.length) ∧ 0 ≤ f ∧ 1 ≤ m ∧ f + m ≤ xs.getD i.toNat 0
instance (xs zs : List Int) (i f m : Int) : Decidable (cutP xs zs i f m) := by unfold cutP; infer_instance
def cutM (xs zs : List Int) (i f m : Int) : TM := if cutP xs zs i f m then (cutSh xs i.toNat m, rdL zs (cutSh xs i.toNat m) (strides xs) (f * (strides xs).getD i.toNat 0), true) else noT
theorem cutM_t {xs zs : List Int} {a : Nat} {f m : Int} (h : cutP xs zs a f m) : cutM xs zs a f m = (cutSh xs a m, rdL zs (cutSh xs a m) (strides xs) (f * (strides xs).getD a 0), true) := by
  unfold cutM; rw [if_pos h, Int.toNat_natCast]
theorem cutM_f {xs zs : List Int} {i f m : Int} (h : ¬ cutP xs zs i f m) : cutM xs zs i f m = noT := if_neg h
theorem cutSh_length (xs : List Int) (a : Nat) (m : Int) : (cutSh xs a m).length = xs.length := by simp [cutSh]
theorem cut_facts' {xs zs : List Int} {a : Nat} {f m : Int} (h : cutP xs zs a f m) : shapeOk xs = true ∧ a < xs.length ∧ CutFacts xs a f m := by
  obtain ⟨h1, h2, h3, h4, h5⟩ := h
  have hs := ((tensorOk_iff _ _).1 h1).1
  have ha : a < xs.length := by omega
  rw [Int.toNat_natCast] at h5
  exact ⟨hs, ha, cut_facts hs ha h3 h4 h5⟩
theorem cut_pre {xs zs : List Int} {a : Nat} {f m : Int} (h : cutP xs zs a f m) : RdPre zs (cutSh xs a m) (strides xs) (f * (strides xs).getD a 0) := by
  obtain ⟨hs, ha, hf⟩ := cut_facts' h
  have t2 := ((tensorOk_iff _ _).1 h.1).2.1
  have hz := size_in hs ha
  have h5 := h.2.2.2.2
  rw [Int.toNat_natCast] at h5
  have hst := strides_in hs ha
  have hm := mul_in (a := f) (b := (strides xs).getD a 0) ⟨h.2.2.1, by have := h.2.2.2.1; omega⟩ (by omega)
  refine ⟨hf.sh, by rw [strides_length, cutSh_length], fun j hj => ?_, by omega, fun i hi => ?_⟩
  · rw [cutSh_length] at hj
    have := strides_in hs hj
    omega
  · rw [cutSh_length] at hi
    have := hf.at_ i hi
    have e : rdAt (cutSh xs a m) (strides xs) (f * (strides xs).getD a 0) i = cutAt xs a f m i := rfl
    rw [e]; omega
def sCutOf : CSpec := fnTB (ι := Nat × List Int × Nat × List Int × Int × Int × Int) 3 (fun | (c, xs, d, zs, i, f, m) => [.agg [.sl c xs.length (xs.map (.int .i64)), .sl d zs.length (zs.map (.int .i64))], .int .i64 i, .int .i64 f, .int .i64 m]) (fun | (_, xs, _, _, _, f, m) => xs.length ≤ 1048576 ∧ (Lit.int .i64 f).wf = true ∧ (Lit.int .i64 m).wf = true) (fun | (_, xs, _, zs, i, f, m) => cutM xs zs i f m)
theorem wf_in {z : Int} (h : (Lit.int .i64 z).wf = true) : -9223372036854775808 ≤ z ∧ z ≤ 9223372036854775807 := by
  simp only [Lit.wf, Bool.and_eq_true, decide_eq_true_iff] at h
  have h1 : IntKind.i64.min = -9223372036854775808 := rfl
  have h2 : IntKind.i64.max = 9223372036854775807 := rfl
  omega
set_option maxHeartbeats 4000000 in
set_option maxRecDepth 10000 in
theorem iCutOf_sound : Sound Try.prog 42 sCutOf := by
  refine sound_of Try.func42 rfl (enters_of Try.func42 (by kernel_rfl) (by kernel_rfl)) ?_
  rintro ⟨c, xs, d, zs, i, f, m⟩ hpre
  have hpre : xs.length ≤ 1048576 ∧ (Lit.int .i64 f).wf = true ∧ (Lit.int .i64 m).wf = true := hpre
  obtain ⟨hp1, hp2, hp3⟩ := hpre
  have hp2 := wf_in hp2
  have hp3 := wf_in hp3
  rcases tensor_or xs zs with ⟨ht, hx, hz⟩ | ht
  · by_cases hi : 0 ≤ i ∧ i < xs.length
    · obtain ⟨a, rfl⟩ : ∃ a : Nat, i = a := ⟨i.toNat, by omega⟩
      obtain ⟨hs, t2, t3⟩ := (tensorOk_iff _ _).1 ht
      have ha : a < xs.length := by omega
      have hsz := size_in hs ha
      by_cases hm : 1 ≤ m
      · have hw : IntKind.i64.wrap (xs.getD a 0 - m) = xs.getD a 0 - m := IntWalk.i64_in _ (by omega)
        by_cases hP : 0 ≤ f ∧ f + m ≤ xs.getD a 0
        · have hC : cutP xs zs a f m := ⟨ht, hi, hP.1, hm, by rw [Int.toNat_natCast]; exact hP.2⟩
          have hrd := cut_pre hC
          have hso : stridesOf xs = strides xs := if_pos hs
          have hsl : (stridesOf xs).length = xs.length := by rw [hso, strides_length]
          have hst := strides_in hs ha
          have hmi := mul_in (a := f) (b := (strides xs).getD a 0) (by omega) (by omega)
          have hw2 : IntKind.i64.wrap (f * (strides xs).getD a 0) = f * (strides xs).getD a 0 := IntWalk.i64_in _ (by omega)
          have hsh : xs.set a m = cutSh xs a m := rfl
          have hcl := cutSh_length xs a m
          have hM := cutM_t hC
          conv => whnf
          repeat' (first
            | (refine plan_in (id := 8) [0, 1, 2, 3, 4, 5, 6, 7, 8, 9, 10, 11, 12] (by kernel_rfl) (by kernel_rfl) ?_; conv => whnf)
            | (refine aIf_t ?_; conv => whnf)
            | (refine aIf_f ?_; conv => whnf)
            | (refine fun (_ : _ ≤ maxLen) => ?_; conv => whnf)
            | (refine get_nat0 (by omega) ?_; conv => whnf)
            | (refine get_int0 (by omega) ?_; conv => whnf)
            | (refine get_nat (by omega) ?_; conv => whnf)
            | (refine get_int (by omega) ?_; conv => whnf)
            | (refine aGet_in rfl ?_; conv => whnf)
            | (refine And.intro (And.intro rfl (And.intro (by kernel_rfl) (And.intro rfl (by kernel_rfl)))) (And.intro (And.intro (by omega) (And.intro (bytes_le (b := 8) rfl (by omega)) (by omega))) ?_); conv => whnf)
            | (refine And.intro (by omega) ?_; conv => whnf)
            | (refine And.intro (by rw [List.length_map]; omega) ?_; conv => whnf)
            | (refine And.intro rfl (And.intro (List.cons_ne_nil _ _) ?_); conv => whnf)
            | (refine And.intro (Nat.le_of_ble_eq_true rfl) ?_; conv => whnf)
            | (refine callG_t ?_; conv => whnf)
            | (refine copyNums_call (by omega) ?_; conv => whnf)
            | (refine axisOk_call ?_; conv => whnf)
            | (refine readBy_call (by assumption) (by first | rfl | omega) (by first | rfl | omega) (by first | rfl | omega) ?_; conv => whnf)
            | (refine iTensorOk_call ?_; conv => whnf)
            | (refine And.intro (pureL_ints _ _) ?_; conv => whnf)
            | (refine And.intro (pureL_take _ _ _) ?_; conv => whnf)
            | (refine And.intro (pureL_cut _ _ _ _) ?_; conv => whnf)
            | (refine cut_ints ?_; conv => whnf)
            | (refine cut_marks ?_; conv => whnf)
            | (refine cut_all rfl (scalL_ints _ _) ?_; conv => whnf)
            | (refine cut_all (by simp only [List.length_map]; omega) (scalL_ints _ _) ?_; conv => whnf)
            | (refine append_int rfl rfl (by first | rfl | (simp only [List.length_take, turned_length]; omega)) (by omega) (Nat.le_of_ble_eq_true rfl) ?_; conv => whnf)
            | (refine append_int3 rfl rfl rfl rfl (by omega) (Nat.le_of_ble_eq_true rfl) ?_; conv => whnf)
            | (refine iStridesOf_call (by omega) ?_; conv => whnf)
            | (refine And.intro rfl (And.intro rfl (And.intro (by first | omega | (rw [List.length_map]; omega)) ?_)); conv => whnf)
            | (refine set_nat ?_ (by omega); conv => whnf)
            | (refine set_int ?_ (by omega); conv => whnf)
            | (refine set_bool ?_ (by omega); conv => whnf)
            | (refine set_force ?_; conv => whnf)
            | (refine get_bool0 (by omega) ?_; conv => whnf)
            | (refine And.intro (And.intro rfl (And.intro (by kernel_rfl) (And.intro rfl (by kernel_rfl)))) (And.intro (And.intro (by omega) (And.intro (bytes_le (b := 1) rfl (by omega)) (by omega))) ?_); conv => whnf)
            | (refine And.intro (And.intro (by kernel_rfl) (And.intro rfl (Nat.le_of_ble_eq_true rfl))) ?_; conv => whnf)
            | (refine And.intro (And.intro (by kernel_rfl) (by kernel_rfl)) ?_; conv => whnf)
            | (refine And.intro (by kernel_rfl) ?_; conv => whnf)
            | (refine aIf_tt (by assumption) ?_; conv => whnf)
            | (refine aIf_ff (by assumption) ?_; conv => whnf)
            | refine aIf_eqt ?_
            | refine aIf_eqf ?_
            | refine aIf_not ?_
            | (refine aIf_bself ?_; conv => whnf)
            | (refine aIf_beself ?_; conv => whnf)
            | (refine aIf_iself ?_; conv => whnf)
            | (refine aIf_decself ?_; conv => whnf)
            | (refine aIf_dec (fun _ => ?_) (fun _ => ?_) <;> conv => whnf)
            | (refine aIf_beq (fun _ => ?_) (fun _ => ?_) <;> conv => whnf)
            | (refine aIf_bne (fun _ => ?_) (fun _ => ?_) <;> conv => whnf)
            | (refine aIf_bbne (fun _ => ?_) (fun _ => ?_) <;> conv => whnf)
            | (refine aIf_bbeq (fun _ => ?_) (fun _ => ?_) <;> conv => whnf)
            | (refine aIf_in (fun _ => ?_) (fun _ => ?_) <;> conv => whnf))
          all_goals (first | (exfalso; omega) | skip)
          rw [hsh]
          refine cut_all (by simp [hcl]) (scalL_ints _ _) ?_
          conv => whnf
          repeat' (first
            | (refine plan_in (id := 8) [0, 1, 2, 3, 4, 5, 6, 7, 8, 9, 10, 11, 12] (by kernel_rfl) (by kernel_rfl) ?_; conv => whnf)
            | (refine aIf_t ?_; conv => whnf)
            | (refine aIf_f ?_; conv => whnf)
            | (refine fun (_ : _ ≤ maxLen) => ?_; conv => whnf)
            | (refine get_nat0 (by omega) ?_; conv => whnf)
            | (refine get_int0 (by omega) ?_; conv => whnf)
            | (refine get_nat (by omega) ?_; conv => whnf)
            | (refine get_int (by omega) ?_; conv => whnf)
            | (refine aGet_in rfl ?_; conv => whnf)
            | (refine And.intro (And.intro rfl (And.intro (by kernel_rfl) (And.intro rfl (by kernel_rfl)))) (And.intro (And.intro (by omega) (And.intro (bytes_le (b := 8) rfl (by omega)) (by omega))) ?_); conv => whnf)
            | (refine And.intro (by omega) ?_; conv => whnf)
            | (refine And.intro (by rw [List.length_map]; omega) ?_; conv => whnf)
            | (refine And.intro rfl (And.intro (List.cons_ne_nil _ _) ?_); conv => whnf)
            | (refine And.intro (Nat.le_of_ble_eq_true rfl) ?_; conv => whnf)
            | (refine callG_t ?_; conv => whnf)
            | (refine copyNums_call (by omega) ?_; conv => whnf)
            | (refine axisOk_call ?_; conv => whnf)
            | (refine readBy_call (by assumption) (by first | rfl | omega) (by first | rfl | omega) (by first | rfl | omega) ?_; conv => whnf)
            | (refine iTensorOk_call ?_; conv => whnf)
            | (refine And.intro (pureL_ints _ _) ?_; conv => whnf)
            | (refine And.intro (pureL_take _ _ _) ?_; conv => whnf)
            | (refine And.intro (pureL_cut _ _ _ _) ?_; conv => whnf)
            | (refine cut_ints ?_; conv => whnf)
            | (refine cut_marks ?_; conv => whnf)
            | (refine cut_all rfl (scalL_ints _ _) ?_; conv => whnf)
            | (refine cut_all (by simp only [List.length_map]; omega) (scalL_ints _ _) ?_; conv => whnf)
            | (refine append_int rfl rfl (by first | rfl | (simp only [List.length_take, turned_length]; omega)) (by omega) (Nat.le_of_ble_eq_true rfl) ?_; conv => whnf)
            | (refine append_int3 rfl rfl rfl rfl (by omega) (Nat.le_of_ble_eq_true rfl) ?_; conv => whnf)
            | (refine iStridesOf_call (by omega) ?_; conv => whnf)
            | (refine And.intro rfl (And.intro rfl (And.intro (by first | omega | (rw [List.length_map]; omega)) ?_)); conv => whnf)
            | (refine set_nat ?_ (by omega); conv => whnf)
            | (refine set_int ?_ (by omega); conv => whnf)
            | (refine set_bool ?_ (by omega); conv => whnf)
            | (refine set_force ?_; conv => whnf)
            | (refine get_bool0 (by omega) ?_; conv => whnf)
            | (refine And.intro (And.intro rfl (And.intro (by kernel_rfl) (And.intro rfl (by kernel_rfl)))) (And.intro (And.intro (by omega) (And.intro (bytes_le (b := 1) rfl (by omega)) (by omega))) ?_); conv => whnf)
            | (refine And.intro (And.intro (by kernel_rfl) (And.intro rfl (Nat.le_of_ble_eq_true rfl))) ?_; conv => whnf)
            | (refine And.intro (And.intro (by kernel_rfl) (by kernel_rfl)) ?_; conv => whnf)
            | (refine And.intro (by kernel_rfl) ?_; conv => whnf)
            | (refine aIf_tt (by assumption) ?_; conv => whnf)
            | (refine aIf_ff (by assumption) ?_; conv => whnf)
            | refine aIf_eqt ?_
            | refine aIf_eqf ?_
            | refine aIf_not ?_
            | (refine aIf_bself ?_; conv => whnf)
            | (refine aIf_beself ?_; conv => whnf)
            | (refine aIf_iself ?_; conv => whnf)
            | (refine aIf_decself ?_; conv => whnf)
            | (refine aIf_dec (fun _ => ?_) (fun _ => ?_) <;> conv => whnf)
            | (refine aIf_beq (fun _ => ?_) (fun _ => ?_) <;> conv => whnf)
            | (refine aIf_bne (fun _ => ?_) (fun _ => ?_) <;> conv => whnf)
            | (refine aIf_bbne (fun _ => ?_) (fun _ => ?_) <;> conv => whnf)
            | (refine aIf_bbeq (fun _ => ?_) (fun _ => ?_) <;> conv => whnf)
            | (refine aIf_in (fun _ => ?_) (fun _ => ?_) <;> conv => whnf))
          rw [hso, hw2]
          repeat' (first
            | (refine plan_in (id := 8) [0, 1, 2, 3, 4, 5, 6, 7, 8, 9, 10, 11, 12] (by kernel_rfl) (by kernel_rfl) ?_; conv => whnf)
            | (refine aIf_t ?_; conv => whnf)
            | (refine aIf_f ?_; conv => whnf)
            | (refine fun (_ : _ ≤ maxLen) => ?_; conv => whnf)
            | (refine get_nat0 (by omega) ?_; conv => whnf)
            | (refine get_int0 (by omega) ?_; conv => whnf)
            | (refine get_nat (by omega) ?_; conv => whnf)
            | (refine get_int (by omega) ?_; conv => whnf)
            | (refine aGet_in rfl ?_; conv => whnf)
            | (refine And.intro (And.intro rfl (And.intro (by kernel_rfl) (And.intro rfl (by kernel_rfl)))) (And.intro (And.intro (by omega) (And.intro (bytes_le (b := 8) rfl (by omega)) (by omega))) ?_); conv => whnf)
            | (refine And.intro (by omega) ?_; conv => whnf)
            | (refine And.intro (by rw [List.length_map]; omega) ?_; conv => whnf)
            | (refine And.intro rfl (And.intro (List.cons_ne_nil _ _) ?_); conv => whnf)
            | (refine And.intro (Nat.le_of_ble_eq_true rfl) ?_; conv => whnf)
            | (refine callG_t ?_; conv => whnf)
            | (refine copyNums_call (by omega) ?_; conv => whnf)
            | (refine axisOk_call ?_; conv => whnf)
            | (refine readBy_call (by assumption) (by first | rfl | omega) (by first | rfl | omega) (by first | rfl | omega) ?_; conv => whnf)
            | (refine iTensorOk_call ?_; conv => whnf)
            | (refine And.intro (pureL_ints _ _) ?_; conv => whnf)
            | (refine And.intro (pureL_take _ _ _) ?_; conv => whnf)
            | (refine And.intro (pureL_cut _ _ _ _) ?_; conv => whnf)
            | (refine cut_ints ?_; conv => whnf)
            | (refine cut_marks ?_; conv => whnf)
            | (refine cut_all rfl (scalL_ints _ _) ?_; conv => whnf)
            | (refine cut_all (by simp only [List.length_map]; omega) (scalL_ints _ _) ?_; conv => whnf)
            | (refine append_int rfl rfl (by first | rfl | (simp only [List.length_take, turned_length]; omega)) (by omega) (Nat.le_of_ble_eq_true rfl) ?_; conv => whnf)
            | (refine append_int3 rfl rfl rfl rfl (by omega) (Nat.le_of_ble_eq_true rfl) ?_; conv => whnf)
            | (refine iStridesOf_call (by omega) ?_; conv => whnf)
            | (refine And.intro rfl (And.intro rfl (And.intro (by first | omega | (rw [List.length_map]; omega)) ?_)); conv => whnf)
            | (refine set_nat ?_ (by omega); conv => whnf)
            | (refine set_int ?_ (by omega); conv => whnf)
            | (refine set_bool ?_ (by omega); conv => whnf)
            | (refine set_force ?_; conv => whnf)
            | (refine get_bool0 (by omega) ?_; conv => whnf)
            | (refine And.intro (And.intro rfl (And.intro (by kernel_rfl) (And.intro rfl (by kernel_rfl)))) (And.intro (And.intro (by omega) (And.intro (bytes_le (b := 1) rfl (by omega)) (by omega))) ?_); conv => whnf)
            | (refine And.intro (And.intro (by kernel_rfl) (And.intro rfl (Nat.le_of_ble_eq_true rfl))) ?_; conv => whnf)
            | (refine And.intro (And.intro (by kernel_rfl) (by kernel_rfl)) ?_; conv => whnf)
            | (refine And.intro (by kernel_rfl) ?_; conv => whnf)
            | (refine aIf_tt (by assumption) ?_; conv => whnf)
            | (refine aIf_ff (by assumption) ?_; conv => whnf)
            | refine aIf_eqt ?_
            | refine aIf_eqf ?_
            | refine aIf_not ?_
            | (refine aIf_bself ?_; conv => whnf)
            | (refine aIf_beself ?_; conv => whnf)
            | (refine aIf_iself ?_; conv => whnf)
            | (refine aIf_decself ?_; conv => whnf)
            | (refine aIf_dec (fun _ => ?_) (fun _ => ?_) <;> conv => whnf)
            | (refine aIf_beq (fun _ => ?_) (fun _ => ?_) <;> conv => whnf)
            | (refine aIf_bne (fun _ => ?_) (fun _ => ?_) <;> conv => whnf)
            | (refine aIf_bbne (fun _ => ?_) (fun _ => ?_) <;> conv => whnf)
            | (refine aIf_bbeq (fun _ => ?_) (fun _ => ?_) <;> conv => whnf)
            | (refine aIf_in (fun _ => ?_) (fun _ => ?_) <;> conv => whnf))
          refine retTB (hM := hM) ?_ ?_ ?_ ?_ ?_
          all_goals (first | exact rfl | decide | (simp; done))
        · have hC : ¬ cutP xs zs a f m := fun h => hP ⟨h.2.2.1, by have := h.2.2.2.2; rwa [Int.toNat_natCast] at this⟩
          conv => whnf
          repeat' (first
            | (refine plan_in (id := 8) [0, 1, 2, 3, 4, 5, 6, 7, 8, 9, 10, 11, 12] (by kernel_rfl) (by kernel_rfl) ?_; conv => whnf)
            | (refine aIf_t ?_; conv => whnf)
            | (refine aIf_f ?_; conv => whnf)
            | (refine fun (_ : _ ≤ maxLen) => ?_; conv => whnf)
            | (refine get_nat0 (by omega) ?_; conv => whnf)
            | (refine get_int0 (by omega) ?_; conv => whnf)
            | (refine get_nat (by omega) ?_; conv => whnf)
            | (refine get_int (by omega) ?_; conv => whnf)
            | (refine aGet_in rfl ?_; conv => whnf)
            | (refine And.intro (And.intro rfl (And.intro (by kernel_rfl) (And.intro rfl (by kernel_rfl)))) (And.intro (And.intro (by omega) (And.intro (bytes_le (b := 8) rfl (by omega)) (by omega))) ?_); conv => whnf)
            | (refine And.intro (by omega) ?_; conv => whnf)
            | (refine And.intro (by rw [List.length_map]; omega) ?_; conv => whnf)
            | (refine And.intro rfl (And.intro (List.cons_ne_nil _ _) ?_); conv => whnf)
            | (refine And.intro (Nat.le_of_ble_eq_true rfl) ?_; conv => whnf)
            | (refine callG_t ?_; conv => whnf)
            | (refine copyNums_call (by omega) ?_; conv => whnf)
            | (refine axisOk_call ?_; conv => whnf)
            | (refine readBy_call (by assumption) (by first | rfl | omega) (by first | rfl | omega) (by first | rfl | omega) ?_; conv => whnf)
            | (refine iTensorOk_call ?_; conv => whnf)
            | (refine And.intro (pureL_ints _ _) ?_; conv => whnf)
            | (refine And.intro (pureL_take _ _ _) ?_; conv => whnf)
            | (refine And.intro (pureL_cut _ _ _ _) ?_; conv => whnf)
            | (refine cut_ints ?_; conv => whnf)
            | (refine cut_marks ?_; conv => whnf)
            | (refine cut_all rfl (scalL_ints _ _) ?_; conv => whnf)
            | (refine cut_all (by simp only [List.length_map]; omega) (scalL_ints _ _) ?_; conv => whnf)
            | (refine append_int rfl rfl (by first | rfl | (simp only [List.length_take, turned_length]; omega)) (by omega) (Nat.le_of_ble_eq_true rfl) ?_; conv => whnf)
            | (refine append_int3 rfl rfl rfl rfl (by omega) (Nat.le_of_ble_eq_true rfl) ?_; conv => whnf)
            | (refine iStridesOf_call (by omega) ?_; conv => whnf)
            | (refine And.intro rfl (And.intro rfl (And.intro (by first | omega | (rw [List.length_map]; omega)) ?_)); conv => whnf)
            | (refine set_nat ?_ (by omega); conv => whnf)
            | (refine set_int ?_ (by omega); conv => whnf)
            | (refine set_bool ?_ (by omega); conv => whnf)
            | (refine set_force ?_; conv => whnf)
            | (refine get_bool0 (by omega) ?_; conv => whnf)
            | (refine And.intro (And.intro rfl (And.intro (by kernel_rfl) (And.intro rfl (by kernel_rfl)))) (And.intro (And.intro (by omega) (And.intro (bytes_le (b := 1) rfl (by omega)) (by omega))) ?_); conv => whnf)
            | (refine And.intro (And.intro (by kernel_rfl) (And.intro rfl (Nat.le_of_ble_eq_true rfl))) ?_; conv => whnf)
            | (refine And.intro (And.intro (by kernel_rfl) (by kernel_rfl)) ?_; conv => whnf)
            | (refine And.intro (by kernel_rfl) ?_; conv => whnf)
            | (refine aIf_tt (by assumption) ?_; conv => whnf)
            | (refine aIf_ff (by assumption) ?_; conv => whnf)
            | refine aIf_eqt ?_
            | refine aIf_eqf ?_
            | refine aIf_not ?_
            | (refine aIf_bself ?_; conv => whnf)
            | (refine aIf_beself ?_; conv => whnf)
            | (refine aIf_iself ?_; conv => whnf)
            | (refine aIf_decself ?_; conv => whnf)
            | (refine aIf_dec (fun _ => ?_) (fun _ => ?_) <;> conv => whnf)
            | (refine aIf_beq (fun _ => ?_) (fun _ => ?_) <;> conv => whnf)
            | (refine aIf_bne (fun _ => ?_) (fun _ => ?_) <;> conv => whnf)
            | (refine aIf_bbne (fun _ => ?_) (fun _ => ?_) <;> conv => whnf)
            | (refine aIf_bbeq (fun _ => ?_) (fun _ => ?_) <;> conv => whnf)
            | (refine aIf_in (fun _ => ?_) (fun _ => ?_) <;> conv => whnf))
          all_goals (first | (exfalso; omega) | skip)
          · refine retTB (hM := cutM_f hC) ?_ ?_ ?_ ?_ ?_
            all_goals (first | exact rfl | decide | (simp; done))
          · refine retTB (hM := cutM_f hC) ?_ ?_ ?_ ?_ ?_
            all_goals (first | exact rfl | decide | (simp; done))
      · have hC : ¬ cutP xs zs a f m := fun h => hm h.2.2.2.1
        conv => whnf
        repeat' (first
          | (refine plan_in (id := 8) [0, 1, 2, 3, 4, 5, 6, 7, 8, 9, 10, 11, 12] (by kernel_rfl) (by kernel_rfl) ?_; conv => whnf)
          | (refine aIf_t ?_; conv => whnf)
          | (refine aIf_f ?_; conv => whnf)
          | (refine fun (_ : _ ≤ maxLen) => ?_; conv => whnf)
          | (refine get_nat0 (by omega) ?_; conv => whnf)
          | (refine get_int0 (by omega) ?_; conv => whnf)
          | (refine get_nat (by omega) ?_; conv => whnf)
          | (refine get_int (by omega) ?_; conv => whnf)
          | (refine aGet_in rfl ?_; conv => whnf)
          | (refine And.intro (And.intro rfl (And.intro (by kernel_rfl) (And.intro rfl (by kernel_rfl)))) (And.intro (And.intro (by omega) (And.intro (bytes_le (b := 8) rfl (by omega)) (by omega))) ?_); conv => whnf)
          | (refine And.intro (by omega) ?_; conv => whnf)
          | (refine And.intro (by rw [List.length_map]; omega) ?_; conv => whnf)
          | (refine And.intro rfl (And.intro (List.cons_ne_nil _ _) ?_); conv => whnf)
          | (refine And.intro (Nat.le_of_ble_eq_true rfl) ?_; conv => whnf)
          | (refine callG_t ?_; conv => whnf)
          | (refine copyNums_call (by omega) ?_; conv => whnf)
          | (refine axisOk_call ?_; conv => whnf)
          | (refine readBy_call (by assumption) (by first | rfl | omega) (by first | rfl | omega) (by first | rfl | omega) ?_; conv => whnf)
          | (refine iTensorOk_call ?_; conv => whnf)
          | (refine And.intro (pureL_ints _ _) ?_; conv => whnf)
          | (refine And.intro (pureL_take _ _ _) ?_; conv => whnf)
          | (refine And.intro (pureL_cut _ _ _ _) ?_; conv => whnf)
          | (refine cut_ints ?_; conv => whnf)
          | (refine cut_marks ?_; conv => whnf)
          | (refine cut_all rfl (scalL_ints _ _) ?_; conv => whnf)
          | (refine cut_all (by simp only [List.length_map]; omega) (scalL_ints _ _) ?_; conv => whnf)
          | (refine append_int rfl rfl (by first | rfl | (simp only [List.length_take, turned_length]; omega)) (by omega) (Nat.le_of_ble_eq_true rfl) ?_; conv => whnf)
          | (refine append_int3 rfl rfl rfl rfl (by omega) (Nat.le_of_ble_eq_true rfl) ?_; conv => whnf)
          | (refine iStridesOf_call (by omega) ?_; conv => whnf)
          | (refine And.intro rfl (And.intro rfl (And.intro (by first | omega | (rw [List.length_map]; omega)) ?_)); conv => whnf)
          | (refine set_nat ?_ (by omega); conv => whnf)
          | (refine set_int ?_ (by omega); conv => whnf)
          | (refine set_bool ?_ (by omega); conv => whnf)
          | (refine set_force ?_; conv => whnf)
          | (refine get_bool0 (by omega) ?_; conv => whnf)
          | (refine And.intro (And.intro rfl (And.intro (by kernel_rfl) (And.intro rfl (by kernel_rfl)))) (And.intro (And.intro (by omega) (And.intro (bytes_le (b := 1) rfl (by omega)) (by omega))) ?_); conv => whnf)
          | (refine And.intro (And.intro (by kernel_rfl) (And.intro rfl (Nat.le_of_ble_eq_true rfl))) ?_; conv => whnf)
          | (refine And.intro (And.intro (by kernel_rfl) (by kernel_rfl)) ?_; conv => whnf)
          | (refine And.intro (by kernel_rfl) ?_; conv => whnf)
          | (refine aIf_tt (by assumption) ?_; conv => whnf)
          | (refine aIf_ff (by assumption) ?_; conv => whnf)
          | refine aIf_eqt ?_
          | refine aIf_eqf ?_
          | refine aIf_not ?_
          | (refine aIf_bself ?_; conv => whnf)
          | (refine aIf_beself ?_; conv => whnf)
          | (refine aIf_iself ?_; conv => whnf)
          | (refine aIf_decself ?_; conv => whnf)
          | (refine aIf_dec (fun _ => ?_) (fun _ => ?_) <;> conv => whnf)
          | (refine aIf_beq (fun _ => ?_) (fun _ => ?_) <;> conv => whnf)
          | (refine aIf_bne (fun _ => ?_) (fun _ => ?_) <;> conv => whnf)
          | (refine aIf_bbne (fun _ => ?_) (fun _ => ?_) <;> conv => whnf)
          | (refine aIf_bbeq (fun _ => ?_) (fun _ => ?_) <;> conv => whnf)
          | (refine aIf_in (fun _ => ?_) (fun _ => ?_) <;> conv => whnf))
        all_goals (first | (exfalso; omega) | skip)
        refine retTB (hM := cutM_f hC) ?_ ?_ ?_ ?_ ?_
        all_goals (first | exact rfl | decide | (simp; done))
    · have hC : ¬ cutP xs zs i f m := fun h => hi h.2.1
      conv => whnf
      repeat' (first
        | (refine plan_in (id := 8) [0, 1, 2, 3, 4, 5, 6, 7, 8, 9, 10, 11, 12] (by kernel_rfl) (by kernel_rfl) ?_; conv => whnf)
        | (refine aIf_t ?_; conv => whnf)
        | (refine aIf_f ?_; conv => whnf)
        | (refine fun (_ : _ ≤ maxLen) => ?_; conv => whnf)
        | (refine get_nat0 (by omega) ?_; conv => whnf)
        | (refine get_int0 (by omega) ?_; conv => whnf)
        | (refine get_nat (by omega) ?_; conv => whnf)
        | (refine get_int (by omega) ?_; conv => whnf)
        | (refine aGet_in rfl ?_; conv => whnf)
        | (refine And.intro (And.intro rfl (And.intro (by kernel_rfl) (And.intro rfl (by kernel_rfl)))) (And.intro (And.intro (by omega) (And.intro (bytes_le (b := 8) rfl (by omega)) (by omega))) ?_); conv => whnf)
        | (refine And.intro (by omega) ?_; conv => whnf)
        | (refine And.intro (by rw [List.length_map]; omega) ?_; conv => whnf)
        | (refine And.intro rfl (And.intro (List.cons_ne_nil _ _) ?_); conv => whnf)
        | (refine And.intro (Nat.le_of_ble_eq_true rfl) ?_; conv => whnf)
        | (refine callG_t ?_; conv => whnf)
        | (refine copyNums_call (by omega) ?_; conv => whnf)
        | (refine axisOk_call ?_; conv => whnf)
        | (refine readBy_call (by assumption) (by first | rfl | omega) (by first | rfl | omega) (by first | rfl | omega) ?_; conv => whnf)
        | (refine iTensorOk_call ?_; conv => whnf)
        | (refine And.intro (pureL_ints _ _) ?_; conv => whnf)
        | (refine And.intro (pureL_take _ _ _) ?_; conv => whnf)
        | (refine And.intro (pureL_cut _ _ _ _) ?_; conv => whnf)
        | (refine cut_ints ?_; conv => whnf)
        | (refine cut_marks ?_; conv => whnf)
        | (refine cut_all rfl (scalL_ints _ _) ?_; conv => whnf)
        | (refine cut_all (by simp only [List.length_map]; omega) (scalL_ints _ _) ?_; conv => whnf)
        | (refine append_int rfl rfl (by first | rfl | (simp only [List.length_take, turned_length]; omega)) (by omega) (Nat.le_of_ble_eq_true rfl) ?_; conv => whnf)
        | (refine append_int3 rfl rfl rfl rfl (by omega) (Nat.le_of_ble_eq_true rfl) ?_; conv => whnf)
        | (refine iStridesOf_call (by omega) ?_; conv => whnf)
        | (refine And.intro rfl (And.intro rfl (And.intro (by first | omega | (rw [List.length_map]; omega)) ?_)); conv => whnf)
        | (refine set_nat ?_ (by omega); conv => whnf)
        | (refine set_int ?_ (by omega); conv => whnf)
        | (refine set_bool ?_ (by omega); conv => whnf)
        | (refine set_force ?_; conv => whnf)
        | (refine get_bool0 (by omega) ?_; conv => whnf)
        | (refine And.intro (And.intro rfl (And.intro (by kernel_rfl) (And.intro rfl (by kernel_rfl)))) (And.intro (And.intro (by omega) (And.intro (bytes_le (b := 1) rfl (by omega)) (by omega))) ?_); conv => whnf)
        | (refine And.intro (And.intro (by kernel_rfl) (And.intro rfl (Nat.le_of_ble_eq_true rfl))) ?_; conv => whnf)
        | (refine And.intro (And.intro (by kernel_rfl) (by kernel_rfl)) ?_; conv => whnf)
        | (refine And.intro (by kernel_rfl) ?_; conv => whnf)
        | (refine aIf_tt (by assumption) ?_; conv => whnf)
        | (refine aIf_ff (by assumption) ?_; conv => whnf)
        | refine aIf_eqt ?_
        | refine aIf_eqf ?_
        | refine aIf_not ?_
        | (refine aIf_bself ?_; conv => whnf)
        | (refine aIf_beself ?_; conv => whnf)
        | (refine aIf_iself ?_; conv => whnf)
        | (refine aIf_decself ?_; conv => whnf)
        | (refine aIf_dec (fun _ => ?_) (fun _ => ?_) <;> conv => whnf)
        | (refine aIf_beq (fun _ => ?_) (fun _ => ?_) <;> conv => whnf)
        | (refine aIf_bne (fun _ => ?_) (fun _ => ?_) <;> conv => whnf)
        | (refine aIf_bbne (fun _ => ?_) (fun _ => ?_) <;> conv => whnf)
        | (refine aIf_bbeq (fun _ => ?_) (fun _ => ?_) <;> conv => whnf)
        | (refine aIf_in (fun _ => ?_) (fun _ => ?_) <;> conv => whnf))
      all_goals (first | (exfalso; omega) | skip)
      refine retTB (hM := cutM_f hC) ?_ ?_ ?_ ?_ ?_
      all_goals (first | exact rfl | decide | (simp; done))
  · have hC : ¬ cutP xs zs i f m := fun h => Bool.false_ne_true (ht.symm.trans h.1)
    conv => whnf
    repeat' (first
      | (refine plan_in (id := 8) [0, 1, 2, 3, 4, 5, 6, 7, 8, 9, 10, 11, 12] (by kernel_rfl) (by kernel_rfl) ?_; conv => whnf)
      | (refine aIf_t ?_; conv => whnf)
      | (refine aIf_f ?_; conv => whnf)
      | (refine fun (_ : _ ≤ maxLen) => ?_; conv => whnf)
      | (refine get_nat0 (by omega) ?_; conv => whnf)
      | (refine get_int0 (by omega) ?_; conv => whnf)
      | (refine get_nat (by omega) ?_; conv => whnf)
      | (refine get_int (by omega) ?_; conv => whnf)
      | (refine aGet_in rfl ?_; conv => whnf)
      | (refine And.intro (And.intro rfl (And.intro (by kernel_rfl) (And.intro rfl (by kernel_rfl)))) (And.intro (And.intro (by omega) (And.intro (bytes_le (b := 8) rfl (by omega)) (by omega))) ?_); conv => whnf)
      | (refine And.intro (by omega) ?_; conv => whnf)
      | (refine And.intro (by rw [List.length_map]; omega) ?_; conv => whnf)
      | (refine And.intro rfl (And.intro (List.cons_ne_nil _ _) ?_); conv => whnf)
      | (refine And.intro (Nat.le_of_ble_eq_true rfl) ?_; conv => whnf)
      | (refine callG_t ?_; conv => whnf)
      | (refine copyNums_call (by omega) ?_; conv => whnf)
      | (refine axisOk_call ?_; conv => whnf)
      | (refine readBy_call (by assumption) (by first | rfl | omega) (by first | rfl | omega) (by first | rfl | omega) ?_; conv => whnf)
      | (refine iTensorOk_call ?_; conv => whnf)
      | (refine And.intro (pureL_ints _ _) ?_; conv => whnf)
      | (refine And.intro (pureL_take _ _ _) ?_; conv => whnf)
      | (refine And.intro (pureL_cut _ _ _ _) ?_; conv => whnf)
      | (refine cut_ints ?_; conv => whnf)
      | (refine cut_marks ?_; conv => whnf)
      | (refine cut_all rfl (scalL_ints _ _) ?_; conv => whnf)
      | (refine cut_all (by simp only [List.length_map]; omega) (scalL_ints _ _) ?_; conv => whnf)
      | (refine append_int rfl rfl (by first | rfl | (simp only [List.length_take, turned_length]; omega)) (by omega) (Nat.le_of_ble_eq_true rfl) ?_; conv => whnf)
      | (refine append_int3 rfl rfl rfl rfl (by omega) (Nat.le_of_ble_eq_true rfl) ?_; conv => whnf)
      | (refine iStridesOf_call (by omega) ?_; conv => whnf)
      | (refine And.intro rfl (And.intro rfl (And.intro (by first | omega | (rw [List.length_map]; omega)) ?_)); conv => whnf)
      | (refine set_nat ?_ (by omega); conv => whnf)
      | (refine set_int ?_ (by omega); conv => whnf)
      | (refine set_bool ?_ (by omega); conv => whnf)
      | (refine set_force ?_; conv => whnf)
      | (refine get_bool0 (by omega) ?_; conv => whnf)
      | (refine And.intro (And.intro rfl (And.intro (by kernel_rfl) (And.intro rfl (by kernel_rfl)))) (And.intro (And.intro (by omega) (And.intro (bytes_le (b := 1) rfl (by omega)) (by omega))) ?_); conv => whnf)
      | (refine And.intro (And.intro (by kernel_rfl) (And.intro rfl (Nat.le_of_ble_eq_true rfl))) ?_; conv => whnf)
      | (refine And.intro (And.intro (by kernel_rfl) (by kernel_rfl)) ?_; conv => whnf)
      | (refine And.intro (by kernel_rfl) ?_; conv => whnf)
      | (refine aIf_tt (by assumption) ?_; conv => whnf)
      | (refine aIf_ff (by assumption) ?_; conv => whnf)
      | refine aIf_eqt ?_
      | refine aIf_eqf ?_
      | refine aIf_not ?_
      | (refine aIf_bself ?_; conv => whnf)
      | (refine aIf_beself ?_; conv => whnf)
      | (refine aIf_iself ?_; conv => whnf)
      | (refine aIf_decself ?_; conv => whnf)
      | (refine aIf_dec (fun _ => ?_) (fun _ => ?_) <;> conv => whnf)
      | (refine aIf_beq (fun _ => ?_) (fun _ => ?_) <;> conv => whnf)
      | (refine aIf_bne (fun _ => ?_) (fun _ => ?_) <;> conv => whnf)
      | (refine aIf_bbne (fun _ => ?_) (fun _ => ?_) <;> conv => whnf)
      | (refine aIf_bbeq (fun _ => ?_) (fun _ => ?_) <;> conv => whnf)
      | (refine aIf_in (fun _ => ?_) (fun _ => ?_) <;> conv => whnf))
    refine retTB (hM := cutM_f hC) ?_ ?_ ?_ ?_ ?_
    all_goals (first | exact rfl | decide | (simp; done))
end Go.Proofs.Ytgoolnkgcdmhmaa
