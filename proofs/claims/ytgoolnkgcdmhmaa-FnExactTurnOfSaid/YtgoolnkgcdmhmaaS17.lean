/- Chapter 2: TurnOf. -/
import Derived.Test.YtgoolnkgcdmhmaaS16
import Derived.Test.YtgoolnkgcdmhmaaS11
import Derived.Test.YtgoolnkgcdmhmaaP15
namespace Go.Proofs.Ytgoolnkgcdmhmaa
open Go.RowKit Go.Am
attribute [local irreducible] aPlan aGet aIf aLoop aCall RetB NextB CallB CallG aCut aSet aAppend

theorem turn_mem {ax : List Int} {n : Nat} (h : turnOk ax n = true) : ax ∈ turnsOf n := by
  obtain ⟨⟨h3, hl⟩, hin⟩ := turnOk_in h
  have hln : ax.length = n := by omega
  subst hln
  match ax, h3, hin, h with
  | [], _, _, _ => simp [turnsOf]
  | [a], _, hin, _ =>
    have ha := hin 0 (by simp)
    simp at ha
    have : a = 0 := by omega
    subst this; simp [turnsOf]
  | [a, b], _, hin, h =>
    have ha := hin 0 (by simp)
    have hb := hin 1 (by simp)
    simp at ha hb
    have ha : a = 0 ∨ a = 1 := by omega
    have hb : b = 0 ∨ b = 1 := by omega
    rcases ha with rfl | rfl <;> rcases hb with rfl | rfl <;> first | (simp [turnsOf]; done) | (exact absurd h (by decide))
  | [a, b, c], _, hin, h =>
    have ha := hin 0 (by simp)
    have hb := hin 1 (by simp)
    have hc := hin 2 (by simp)
    simp at ha hb hc
    have ha : a = 0 ∨ a = 1 ∨ a = 2 := by omega
    have hb : b = 0 ∨ b = 1 ∨ b = 2 := by omega
    have hc : c = 0 ∨ c = 1 ∨ c = 2 := by omega
    rcases ha with rfl | rfl | rfl <;> rcases hb with rfl | rfl | rfl <;> rcases hc with rfl | rfl | rfl <;> first | (simp [turnsOf]; done) | (exact absurd h (by decide))
  | _ :: _ :: _ :: _ :: _, h3, _, _ => simp only [List.length_cons] at h3; omega
structure TurnFacts (xs ax : List Int) : Prop where
  cnt : cntTo (turned xs ax) (turned xs ax).length = cntTo xs xs.length
  sh : shapeOk (turned xs ax) = true
  f : ∀ i : Nat, (i : Int) < cntTo xs xs.length → 0 ≤ turnF xs ax i ∧ turnF xs ax i < cntTo xs xs.length ∧ turnG xs ax (turnF xs ax i).toNat = i
  g : ∀ i : Nat, (i : Int) < cntTo xs xs.length → 0 ≤ turnG xs ax i ∧ turnG xs ax i < cntTo xs xs.length ∧ turnF xs ax (turnG xs ax i).toNat = i
theorem turn_facts {xs ax : List Int} (hs : shapeOk xs = true) (h : turnOk ax xs.length = true) : TurnFacts xs ax := by
  have ha := turnAll_t hs
  unfold turnAll at ha
  rw [List.all_eq_true] at ha
  have ha := ha ax (turn_mem h)
  simp only [Bool.and_eq_true, beq_iff_eq] at ha
  obtain ⟨⟨h1, h2⟩, h3⟩ := ha
  unfold turnChk at h1
  rw [List.all_eq_true] at h1
  have hc := cnt64 hs (Nat.le_refl _)
  have e : ((cntN xs : Nat) : Int) = cntTo xs xs.length := by unfold cntN; omega
  have each : ∀ i : Nat, (i : Int) < cntTo xs xs.length → _ := fun i hi => h1 i (List.mem_range.2 (by omega))
  simp only [Bool.and_eq_true, decide_eq_true_eq, beq_iff_eq, e] at each
  refine ⟨h2, h3, fun i hi => ?_, fun i hi => ?_⟩
  · obtain ⟨⟨⟨⟨⟨a1, a2⟩, a3⟩, a4⟩, a5⟩, a6⟩ := each i hi
    exact ⟨a1, a2, a6⟩
  · obtain ⟨⟨⟨⟨⟨a1, a2⟩, a3⟩, a4⟩, a5⟩, a6⟩ := each i hi
    exact ⟨a3, a4, a5⟩

def turnM (xs zs ax : List Int) : TM := if tensorOk xs zs = true ∧ turnOk ax xs.length = true then (turned xs ax, rdL zs (turned xs ax) (turned (strides xs) ax) 0, true) else noT
theorem turnM_t {xs zs ax : List Int} (h : tensorOk xs zs = true) (h' : turnOk ax xs.length = true) : turnM xs zs ax = (turned xs ax, rdL zs (turned xs ax) (turned (strides xs) ax) 0, true) := if_pos ⟨h, h'⟩
theorem turnM_f1 {xs zs ax : List Int} (h : tensorOk xs zs = false) : turnM xs zs ax = noT := if_neg (by rw [h]; exact fun h => Bool.false_ne_true h.1)
theorem turnM_f2 {xs zs ax : List Int} (h : turnOk ax xs.length = false) : turnM xs zs ax = noT := if_neg (by rw [h]; exact fun h => Bool.false_ne_true h.2)
theorem turn_pre {xs zs ax : List Int} (ht : tensorOk xs zs = true) (h : turnOk ax xs.length = true) : RdPre zs (turned xs ax) (turned (strides xs) ax) 0 := by
  obtain ⟨t1, t2, t3⟩ := (tensorOk_iff _ _).1 ht
  have hf := turn_facts t1 h
  have hin := (turnOk_in h).2
  refine ⟨hf.sh, by rw [turned_length, turned_length], fun j hj => ?_, by omega, fun i hi => ?_⟩
  · rw [turned_length] at hj
    have hj' := hin j hj
    rw [turned_getD hj]
    have := strides_in t1 (j := (ax.getD j 0).toNat) (by omega)
    omega
  · rw [hf.cnt] at hi
    have := hf.g i hi
    have e : rdAt (turned xs ax) (turned (strides xs) ax) 0 i = turnG xs ax i := rfl
    rw [e]; omega
def sTurnOf : CSpec := fnTB (ι := Nat × List Int × Nat × List Int × Nat × List Int) 3 (fun | (c, xs, d, zs, e, ax) => [.agg [.sl c xs.length (xs.map (.int .i64)), .sl d zs.length (zs.map (.int .i64))], .sl e ax.length (ax.map (.int .i64))]) (fun | (_, xs, _, _, _, ax) => xs.length ≤ 1048576 ∧ ax.length ≤ 1048576) (fun | (_, xs, _, zs, _, ax) => turnM xs zs ax)
set_option maxHeartbeats 4000000 in
set_option maxRecDepth 10000 in
theorem iTurnOf_sound : Sound Try.prog 38 sTurnOf := by
  refine sound_of Try.func38 rfl (enters_of Try.func38 (by kernel_rfl) (by kernel_rfl)) ?_
  rintro ⟨c, xs, d, zs, e, ax⟩ hpre
  have hpre : xs.length ≤ 1048576 ∧ ax.length ≤ 1048576 := hpre
  have hmax : maxLen = 9223372036854775807 := rfl
  rcases tensor_or xs zs with ⟨ht, hx, hz⟩ | ht
  · by_cases hu : turnOk ax xs.length = true
    · have hs := ((tensorOk_iff _ _).1 ht).1
      have hts : tsOk xs ax = true := by unfold tsOk; rw [hs, hu]; rfl
      have htl : tsL xs ax = turned xs ax := if_pos hts
      have htn : (tsL xs ax).length = ax.length := by rw [htl, turned_length]
      have hin := turnOk_in hu
      have hso : stridesOf xs = strides xs := if_pos hs
      have hsl : (stridesOf xs).length = xs.length := by rw [hso, strides_length]
      have hrd : RdPre zs (tsL xs ax) (turned (strides xs) ax) 0 := by rw [htl]; exact turn_pre ht hu
      have hrl : (turned (strides xs) ax).length = ax.length := turned_length _ _
      conv => whnf
      repeat' (first
        | (refine aIf_t ?_; conv => whnf)
        | (refine aIf_f ?_; conv => whnf)
        | (refine fun (_ : _ ≤ maxLen) => ?_; conv => whnf)
        | (refine get_nat (by omega) ?_; conv => whnf)
        | (refine get_int (by omega) ?_; conv => whnf)
        | (refine get_nat0 (by omega) ?_; conv => whnf)
        | (refine get_int0 (by omega) ?_; conv => whnf)
        | (refine aGet_in rfl ?_; conv => whnf)
        | (refine And.intro (And.intro rfl (And.intro (by kernel_rfl) (And.intro rfl (by kernel_rfl)))) (And.intro (And.intro (by omega) (And.intro (bytes_le (b := 8) rfl (by omega)) (by omega))) ?_); conv => whnf)
        | (refine And.intro (by omega) ?_; conv => whnf)
        | (refine And.intro (by rw [List.length_map]; omega) ?_; conv => whnf)
        | (refine And.intro rfl (And.intro (List.cons_ne_nil _ _) ?_); conv => whnf)
        | (refine And.intro (Nat.le_of_ble_eq_true rfl) ?_; conv => whnf)
        | (refine callG_t ?_; conv => whnf)
        | (refine readBy_call (by assumption) (by first | rfl | omega) (by first | rfl | omega) (by first | rfl | omega) ?_; conv => whnf)
        | (refine iTensorOk_call ?_; conv => whnf)
        | (refine And.intro (pureL_ints _ _) ?_; conv => whnf)
        | (refine cut_ints ?_; conv => whnf)
        | (refine cut_marks ?_; conv => whnf)
        | (refine cut_all rfl (scalL_ints _ _) ?_; conv => whnf)
        | (refine cut_all (by simp only [List.length_map]; omega) (scalL_ints _ _) ?_; conv => whnf)
        | (refine append_int rfl rfl (by first | rfl | (simp only [List.length_take, turned_length]; omega)) (by omega) (Nat.le_of_ble_eq_true rfl) ?_; conv => whnf)
        | (refine append_int3 rfl rfl rfl rfl (by omega) (Nat.le_of_ble_eq_true rfl) ?_; conv => whnf)
        | (refine iTurnShape_call (by omega) ?_; conv => whnf)
        | (refine iStridesOf_call (by omega) ?_; conv => whnf)
        | (refine And.intro rfl (And.intro rfl (And.intro (by first | omega | (rw [List.length_map]; omega)) ?_)); conv => whnf)
        | (refine set_nat ?_ (by omega); conv => whnf)
        | (refine set_int ?_ (by omega); conv => whnf)
        | (refine set_bool ?_ (by omega); conv => whnf)
        | (refine set_force ?_; conv => whnf)
        | (refine get_bool0 (by omega) ?_; conv => whnf)
        | (refine And.intro (And.intro rfl (And.intro (by kernel_rfl) (And.intro rfl (by kernel_rfl)))) (And.intro (And.intro (by omega) (And.intro (bytes_le (b := 1) rfl (by omega)) (by omega))) ?_); conv => whnf)
        | (refine And.intro (And.intro (by kernel_rfl) (And.intro rfl (Nat.le_of_ble_eq_true rfl))) ?_; conv => whnf)
        | (refine And.intro (And.intro (by kernel_rfl) (by kernel_rfl)) ?_; conv => whnf)
        | (refine And.intro (by kernel_rfl) ?_; conv => whnf)
        | (refine aIf_tt (by assumption) ?_; conv => whnf)
        | (refine aIf_ff (by assumption) ?_; conv => whnf)
        | refine aIf_eqt ?_
        | refine aIf_eqf ?_
        | refine aIf_not ?_
        | (refine aIf_bself ?_; conv => whnf)
        | (refine aIf_beself ?_; conv => whnf)
        | (refine aIf_iself ?_; conv => whnf)
        | (refine aIf_decself ?_; conv => whnf)
        | (refine aIf_dec (fun _ => ?_) (fun _ => ?_) <;> conv => whnf)
        | (refine aIf_beq (fun _ => ?_) (fun _ => ?_) <;> conv => whnf)
        | (refine aIf_bne (fun _ => ?_) (fun _ => ?_) <;> conv => whnf)
        | (refine aIf_bbne (fun _ => ?_) (fun _ => ?_) <;> conv => whnf)
        | (refine aIf_bbeq (fun _ => ?_) (fun _ => ?_) <;> conv => whnf)
        | (refine aIf_in (fun _ => ?_) (fun _ => ?_) <;> conv => whnf))
      refine loop_in (ι := Nat × List Int) (fun | (k, ws) => ⟨[.un, .un, .ptr 0 1 0, .un, .ptr 3 4 0, .bool false, .ref 4 5 0 (tsL xs ax).length, .un, .ref 5 7 0 (stridesOf xs).length, .ref 6 8 0 ax.length, .un, .un, .un, .un, .un, .un, .un, .un, .un, .un, .un, .un, .un, .un, .un, .un, .un, .un, .un, .un, .un, .un, .un, .sl e ax.length (ax.map (.int .i64)), .int .i64 ax.length, .int .i64 k, .un, .un, .un, .un, .un, .un, .un, .un, .un, .un, .un, .un, .un, .un, .un, .un, .un], [bt 1 [.sl c xs.length (xs.map (.int .i64)), .sl d zs.length (zs.map (.int .i64))], nl 2, nl 3, bt 4 [.ref 1 2 0 0, .ref 2 3 0 0], li 5 (tsL xs ax), li 7 (stridesOf xs), li 8 ws], 9, 0⟩)
        (fun x => x.1 ≤ ax.length ∧ x.2.length = ax.length ∧ ∀ j, j < x.1 → x.2.getD j 0 = (strides xs).getD (ax.getD j 0).toNat 0) (fun x => ax.length - x.1) (0, List.replicate ax.length 0) ⟨Nat.zero_le _, by simp, fun j hj => absurd hj (Nat.not_lt_zero _)⟩ ?_ ?_
      · repeat' (first
          | exact trivial
          | exact rfl
          | exact pureL_ints _ _
          | exact pureL_bools _
          | exact Or.inl (And.intro rfl rfl)
          | exact Or.inl (And.intro (pureL_box _ _) rfl)
          | exact le_ints rfl
          | exact le_ints (rep_ints _ _)
          | exact le_bools rfl
          | exact le_bools (rep_bools _)
          | exact Or.inl (And.intro (pureL_pair _ _ _ _ _ _) rfl)
          | refine le_ints ?_
          | refine Or.inr ?_
          | refine And.intro ?_ ?_
          | exact Nat.le_of_ble_eq_true rfl
          | exact Nat.zero_le _
          | exact int_eq (by assumption)
          | exact int_eq (by omega)
          | exact int_eq (Int.add_zero _).symm
          | exact List.length_append
          | exact int_eq (by rw [IntWalk.i64_in _ (by omega)] <;> omega))
      · rintro ⟨k, ws⟩ ⟨hk, hl, hall⟩
        have hk : k ≤ ax.length := hk
        have hl : ws.length = ax.length := hl
        have hall : ∀ j, j < k → ws.getD j 0 = (strides xs).getD (ax.getD j 0).toNat 0 := hall
        by_cases hlt : k < ax.length
        · have hk2 := hin.2 k hlt
          conv => whnf
          repeat' (first
            | (refine aIf_t ?_; conv => whnf)
            | (refine aIf_f ?_; conv => whnf)
            | (refine fun (_ : _ ≤ maxLen) => ?_; conv => whnf)
            | (refine get_nat (by omega) ?_; conv => whnf)
            | (refine get_int (by omega) ?_; conv => whnf)
            | (refine get_nat0 (by omega) ?_; conv => whnf)
            | (refine get_int0 (by omega) ?_; conv => whnf)
            | (refine aGet_in rfl ?_; conv => whnf)
            | (refine And.intro (And.intro rfl (And.intro (by kernel_rfl) (And.intro rfl (by kernel_rfl)))) (And.intro (And.intro (by omega) (And.intro (bytes_le (b := 8) rfl (by omega)) (by omega))) ?_); conv => whnf)
            | (refine And.intro (by omega) ?_; conv => whnf)
            | (refine And.intro (by rw [List.length_map]; omega) ?_; conv => whnf)
            | (refine And.intro rfl (And.intro (List.cons_ne_nil _ _) ?_); conv => whnf)
            | (refine And.intro (Nat.le_of_ble_eq_true rfl) ?_; conv => whnf)
            | (refine callG_t ?_; conv => whnf)
            | (refine readBy_call (by assumption) (by first | rfl | omega) (by first | rfl | omega) (by first | rfl | omega) ?_; conv => whnf)
            | (refine iTensorOk_call ?_; conv => whnf)
            | (refine And.intro (pureL_ints _ _) ?_; conv => whnf)
            | (refine cut_ints ?_; conv => whnf)
            | (refine cut_marks ?_; conv => whnf)
            | (refine cut_all rfl (scalL_ints _ _) ?_; conv => whnf)
            | (refine cut_all (by simp only [List.length_map]; omega) (scalL_ints _ _) ?_; conv => whnf)
            | (refine append_int rfl rfl (by first | rfl | (simp only [List.length_take, turned_length]; omega)) (by omega) (Nat.le_of_ble_eq_true rfl) ?_; conv => whnf)
            | (refine append_int3 rfl rfl rfl rfl (by omega) (Nat.le_of_ble_eq_true rfl) ?_; conv => whnf)
            | (refine iTurnShape_call (by omega) ?_; conv => whnf)
            | (refine iStridesOf_call (by omega) ?_; conv => whnf)
            | (refine And.intro rfl (And.intro rfl (And.intro (by first | omega | (rw [List.length_map]; omega)) ?_)); conv => whnf)
            | (refine set_nat ?_ (by omega); conv => whnf)
            | (refine set_int ?_ (by omega); conv => whnf)
            | (refine set_bool ?_ (by omega); conv => whnf)
            | (refine set_force ?_; conv => whnf)
            | (refine get_bool0 (by omega) ?_; conv => whnf)
            | (refine And.intro (And.intro rfl (And.intro (by kernel_rfl) (And.intro rfl (by kernel_rfl)))) (And.intro (And.intro (by omega) (And.intro (bytes_le (b := 1) rfl (by omega)) (by omega))) ?_); conv => whnf)
            | (refine And.intro (And.intro (by kernel_rfl) (And.intro rfl (Nat.le_of_ble_eq_true rfl))) ?_; conv => whnf)
            | (refine And.intro (And.intro (by kernel_rfl) (by kernel_rfl)) ?_; conv => whnf)
            | (refine And.intro (by kernel_rfl) ?_; conv => whnf)
            | (refine aIf_tt (by assumption) ?_; conv => whnf)
            | (refine aIf_ff (by assumption) ?_; conv => whnf)
            | refine aIf_eqt ?_
            | refine aIf_eqf ?_
            | refine aIf_not ?_
            | (refine aIf_bself ?_; conv => whnf)
            | (refine aIf_beself ?_; conv => whnf)
            | (refine aIf_iself ?_; conv => whnf)
            | (refine aIf_decself ?_; conv => whnf)
            | (refine aIf_dec (fun _ => ?_) (fun _ => ?_) <;> conv => whnf)
            | (refine aIf_beq (fun _ => ?_) (fun _ => ?_) <;> conv => whnf)
            | (refine aIf_bne (fun _ => ?_) (fun _ => ?_) <;> conv => whnf)
            | (refine aIf_bbne (fun _ => ?_) (fun _ => ?_) <;> conv => whnf)
            | (refine aIf_bbeq (fun _ => ?_) (fun _ => ?_) <;> conv => whnf)
            | (refine aIf_in (fun _ => ?_) (fun _ => ?_) <;> conv => whnf))
          all_goals (first | (exfalso; omega) | skip)
          rw [show (ax.getD k 0).toNat * 1 = (ax.getD k 0).toNat by omega]
          refine next_in (k + 1, ws.set k ((stridesOf xs).getD (ax.getD k 0).toNat 0)) (show ax.length - (k + 1) < ax.length - k by omega) ⟨(show k + 1 ≤ ax.length by omega), by simpa using hl, fun j hj => ?_⟩ ?_
          · have hj : j < k + 1 := hj
            show (ws.set k ((stridesOf xs).getD (ax.getD k 0).toNat 0)).getD j 0 = _
            rw [getD_set (by omega)]
            split
            · rename_i e; rw [← e, hso]
            · exact hall j (by omega)
          · repeat' (first
              | exact trivial
              | exact rfl
              | exact pureL_ints _ _
              | exact pureL_bools _
              | exact Or.inl (And.intro rfl rfl)
              | exact Or.inl (And.intro (pureL_box _ _) rfl)
              | exact le_ints rfl
              | exact le_ints (rep_ints _ _)
              | exact le_bools rfl
              | exact le_bools (rep_bools _)
              | exact Or.inl (And.intro (pureL_pair _ _ _ _ _ _) rfl)
              | refine le_ints ?_
              | refine Or.inr ?_
              | refine And.intro ?_ ?_
              | exact Nat.le_of_ble_eq_true rfl
              | exact Nat.zero_le _
              | exact int_eq (by assumption)
              | exact int_eq (by omega)
              | exact int_eq (Int.add_zero _).symm
              | exact List.length_append
              | exact int_eq (by rw [IntWalk.i64_in _ (by omega)] <;> omega))
        · have e : ws = turned (strides xs) ax := getD_ext (by rw [turned_length, hl]) fun j hj => by
            rw [turned_length] at hj
            rw [hall j (by omega), turned_getD hj]
          subst e
          conv => whnf
          repeat' (first
            | (refine aIf_t ?_; conv => whnf)
            | (refine aIf_f ?_; conv => whnf)
            | (refine fun (_ : _ ≤ maxLen) => ?_; conv => whnf)
            | (refine get_nat (by omega) ?_; conv => whnf)
            | (refine get_int (by omega) ?_; conv => whnf)
            | (refine get_nat0 (by omega) ?_; conv => whnf)
            | (refine get_int0 (by omega) ?_; conv => whnf)
            | (refine aGet_in rfl ?_; conv => whnf)
            | (refine And.intro (And.intro rfl (And.intro (by kernel_rfl) (And.intro rfl (by kernel_rfl)))) (And.intro (And.intro (by omega) (And.intro (bytes_le (b := 8) rfl (by omega)) (by omega))) ?_); conv => whnf)
            | (refine And.intro (by omega) ?_; conv => whnf)
            | (refine And.intro (by rw [List.length_map]; omega) ?_; conv => whnf)
            | (refine And.intro rfl (And.intro (List.cons_ne_nil _ _) ?_); conv => whnf)
            | (refine And.intro (Nat.le_of_ble_eq_true rfl) ?_; conv => whnf)
            | (refine callG_t ?_; conv => whnf)
            | (refine readBy_call (by assumption) (by first | rfl | omega) (by first | rfl | omega) (by first | rfl | omega) ?_; conv => whnf)
            | (refine iTensorOk_call ?_; conv => whnf)
            | (refine And.intro (pureL_ints _ _) ?_; conv => whnf)
            | (refine cut_ints ?_; conv => whnf)
            | (refine cut_marks ?_; conv => whnf)
            | (refine cut_all rfl (scalL_ints _ _) ?_; conv => whnf)
            | (refine cut_all (by simp only [List.length_map]; omega) (scalL_ints _ _) ?_; conv => whnf)
            | (refine append_int rfl rfl (by first | rfl | (simp only [List.length_take, turned_length]; omega)) (by omega) (Nat.le_of_ble_eq_true rfl) ?_; conv => whnf)
            | (refine append_int3 rfl rfl rfl rfl (by omega) (Nat.le_of_ble_eq_true rfl) ?_; conv => whnf)
            | (refine iTurnShape_call (by omega) ?_; conv => whnf)
            | (refine iStridesOf_call (by omega) ?_; conv => whnf)
            | (refine And.intro rfl (And.intro rfl (And.intro (by first | omega | (rw [List.length_map]; omega)) ?_)); conv => whnf)
            | (refine set_nat ?_ (by omega); conv => whnf)
            | (refine set_int ?_ (by omega); conv => whnf)
            | (refine set_bool ?_ (by omega); conv => whnf)
            | (refine set_force ?_; conv => whnf)
            | (refine get_bool0 (by omega) ?_; conv => whnf)
            | (refine And.intro (And.intro rfl (And.intro (by kernel_rfl) (And.intro rfl (by kernel_rfl)))) (And.intro (And.intro (by omega) (And.intro (bytes_le (b := 1) rfl (by omega)) (by omega))) ?_); conv => whnf)
            | (refine And.intro (And.intro (by kernel_rfl) (And.intro rfl (Nat.le_of_ble_eq_true rfl))) ?_; conv => whnf)
            | (refine And.intro (And.intro (by kernel_rfl) (by kernel_rfl)) ?_; conv => whnf)
            | (refine And.intro (by kernel_rfl) ?_; conv => whnf)
            | (refine aIf_tt (by assumption) ?_; conv => whnf)
            | (refine aIf_ff (by assumption) ?_; conv => whnf)
            | refine aIf_eqt ?_
            | refine aIf_eqf ?_
            | refine aIf_not ?_
            | (refine aIf_bself ?_; conv => whnf)
            | (refine aIf_beself ?_; conv => whnf)
            | (refine aIf_iself ?_; conv => whnf)
            | (refine aIf_decself ?_; conv => whnf)
            | (refine aIf_dec (fun _ => ?_) (fun _ => ?_) <;> conv => whnf)
            | (refine aIf_beq (fun _ => ?_) (fun _ => ?_) <;> conv => whnf)
            | (refine aIf_bne (fun _ => ?_) (fun _ => ?_) <;> conv => whnf)
            | (refine aIf_bbne (fun _ => ?_) (fun _ => ?_) <;> conv => whnf)
            | (refine aIf_bbeq (fun _ => ?_) (fun _ => ?_) <;> conv => whnf)
            | (refine aIf_in (fun _ => ?_) (fun _ => ?_) <;> conv => whnf))
          all_goals (first | (exfalso; omega) | skip)
          have hM : turnM xs zs ax = (tsL xs ax, rdL zs (tsL xs ax) (turned (strides xs) ax) 0, true) := by rw [htl]; exact turnM_t ht hu
          refine retTB (hM := hM) ?_ ?_ ?_ ?_ ?_
          all_goals (first | exact rfl | decide | (simp; done))
    · have hu : turnOk ax xs.length = false := by simpa using hu
      have hts : tsOk xs ax = false := by unfold tsOk; rw [hu, Bool.and_false]
      conv => whnf
      repeat' (first
        | (refine aIf_t ?_; conv => whnf)
        | (refine aIf_f ?_; conv => whnf)
        | (refine fun (_ : _ ≤ maxLen) => ?_; conv => whnf)
        | (refine get_nat (by omega) ?_; conv => whnf)
        | (refine get_int (by omega) ?_; conv => whnf)
        | (refine get_nat0 (by omega) ?_; conv => whnf)
        | (refine get_int0 (by omega) ?_; conv => whnf)
        | (refine aGet_in rfl ?_; conv => whnf)
        | (refine And.intro (And.intro rfl (And.intro (by kernel_rfl) (And.intro rfl (by kernel_rfl)))) (And.intro (And.intro (by omega) (And.intro (bytes_le (b := 8) rfl (by omega)) (by omega))) ?_); conv => whnf)
        | (refine And.intro (by omega) ?_; conv => whnf)
        | (refine And.intro (by rw [List.length_map]; omega) ?_; conv => whnf)
        | (refine And.intro rfl (And.intro (List.cons_ne_nil _ _) ?_); conv => whnf)
        | (refine And.intro (Nat.le_of_ble_eq_true rfl) ?_; conv => whnf)
        | (refine callG_t ?_; conv => whnf)
        | (refine readBy_call (by assumption) (by first | rfl | omega) (by first | rfl | omega) (by first | rfl | omega) ?_; conv => whnf)
        | (refine iTensorOk_call ?_; conv => whnf)
        | (refine And.intro (pureL_ints _ _) ?_; conv => whnf)
        | (refine cut_ints ?_; conv => whnf)
        | (refine cut_marks ?_; conv => whnf)
        | (refine cut_all rfl (scalL_ints _ _) ?_; conv => whnf)
        | (refine cut_all (by simp only [List.length_map]; omega) (scalL_ints _ _) ?_; conv => whnf)
        | (refine append_int rfl rfl (by first | rfl | (simp only [List.length_take, turned_length]; omega)) (by omega) (Nat.le_of_ble_eq_true rfl) ?_; conv => whnf)
        | (refine append_int3 rfl rfl rfl rfl (by omega) (Nat.le_of_ble_eq_true rfl) ?_; conv => whnf)
        | (refine iTurnShape_call (by omega) ?_; conv => whnf)
        | (refine iStridesOf_call (by omega) ?_; conv => whnf)
        | (refine And.intro rfl (And.intro rfl (And.intro (by first | omega | (rw [List.length_map]; omega)) ?_)); conv => whnf)
        | (refine set_nat ?_ (by omega); conv => whnf)
        | (refine set_int ?_ (by omega); conv => whnf)
        | (refine set_bool ?_ (by omega); conv => whnf)
        | (refine set_force ?_; conv => whnf)
        | (refine get_bool0 (by omega) ?_; conv => whnf)
        | (refine And.intro (And.intro rfl (And.intro (by kernel_rfl) (And.intro rfl (by kernel_rfl)))) (And.intro (And.intro (by omega) (And.intro (bytes_le (b := 1) rfl (by omega)) (by omega))) ?_); conv => whnf)
        | (refine And.intro (And.intro (by kernel_rfl) (And.intro rfl (Nat.le_of_ble_eq_true rfl))) ?_; conv => whnf)
        | (refine And.intro (And.intro (by kernel_rfl) (by kernel_rfl)) ?_; conv => whnf)
        | (refine And.intro (by kernel_rfl) ?_; conv => whnf)
        | (refine aIf_tt (by assumption) ?_; conv => whnf)
        | (refine aIf_ff (by assumption) ?_; conv => whnf)
        | refine aIf_eqt ?_
        | refine aIf_eqf ?_
        | refine aIf_not ?_
        | (refine aIf_bself ?_; conv => whnf)
        | (refine aIf_beself ?_; conv => whnf)
        | (refine aIf_iself ?_; conv => whnf)
        | (refine aIf_decself ?_; conv => whnf)
        | (refine aIf_dec (fun _ => ?_) (fun _ => ?_) <;> conv => whnf)
        | (refine aIf_beq (fun _ => ?_) (fun _ => ?_) <;> conv => whnf)
        | (refine aIf_bne (fun _ => ?_) (fun _ => ?_) <;> conv => whnf)
        | (refine aIf_bbne (fun _ => ?_) (fun _ => ?_) <;> conv => whnf)
        | (refine aIf_bbeq (fun _ => ?_) (fun _ => ?_) <;> conv => whnf)
        | (refine aIf_in (fun _ => ?_) (fun _ => ?_) <;> conv => whnf))
      refine retTB (hM := turnM_f2 hu) ?_ ?_ ?_ ?_ ?_
      all_goals (first | exact rfl | decide | (simp; done))
  · cases hts : tsOk xs ax
    · conv => whnf
      repeat' (first
        | (refine aIf_t ?_; conv => whnf)
        | (refine aIf_f ?_; conv => whnf)
        | (refine fun (_ : _ ≤ maxLen) => ?_; conv => whnf)
        | (refine get_nat (by omega) ?_; conv => whnf)
        | (refine get_int (by omega) ?_; conv => whnf)
        | (refine get_nat0 (by omega) ?_; conv => whnf)
        | (refine get_int0 (by omega) ?_; conv => whnf)
        | (refine aGet_in rfl ?_; conv => whnf)
        | (refine And.intro (And.intro rfl (And.intro (by kernel_rfl) (And.intro rfl (by kernel_rfl)))) (And.intro (And.intro (by omega) (And.intro (bytes_le (b := 8) rfl (by omega)) (by omega))) ?_); conv => whnf)
        | (refine And.intro (by omega) ?_; conv => whnf)
        | (refine And.intro (by rw [List.length_map]; omega) ?_; conv => whnf)
        | (refine And.intro rfl (And.intro (List.cons_ne_nil _ _) ?_); conv => whnf)
        | (refine And.intro (Nat.le_of_ble_eq_true rfl) ?_; conv => whnf)
        | (refine callG_t ?_; conv => whnf)
        | (refine readBy_call (by assumption) (by first | rfl | omega) (by first | rfl | omega) (by first | rfl | omega) ?_; conv => whnf)
        | (refine iTensorOk_call ?_; conv => whnf)
        | (refine And.intro (pureL_ints _ _) ?_; conv => whnf)
        | (refine cut_ints ?_; conv => whnf)
        | (refine cut_marks ?_; conv => whnf)
        | (refine cut_all rfl (scalL_ints _ _) ?_; conv => whnf)
        | (refine cut_all (by simp only [List.length_map]; omega) (scalL_ints _ _) ?_; conv => whnf)
        | (refine append_int rfl rfl (by first | rfl | (simp only [List.length_take, turned_length]; omega)) (by omega) (Nat.le_of_ble_eq_true rfl) ?_; conv => whnf)
        | (refine append_int3 rfl rfl rfl rfl (by omega) (Nat.le_of_ble_eq_true rfl) ?_; conv => whnf)
        | (refine iTurnShape_call (by omega) ?_; conv => whnf)
        | (refine iStridesOf_call (by omega) ?_; conv => whnf)
        | (refine And.intro rfl (And.intro rfl (And.intro (by first | omega | (rw [List.length_map]; omega)) ?_)); conv => whnf)
        | (refine set_nat ?_ (by omega); conv => whnf)
        | (refine set_int ?_ (by omega); conv => whnf)
        | (refine set_bool ?_ (by omega); conv => whnf)
        | (refine set_force ?_; conv => whnf)
        | (refine get_bool0 (by omega) ?_; conv => whnf)
        | (refine And.intro (And.intro rfl (And.intro (by kernel_rfl) (And.intro rfl (by kernel_rfl)))) (And.intro (And.intro (by omega) (And.intro (bytes_le (b := 1) rfl (by omega)) (by omega))) ?_); conv => whnf)
        | (refine And.intro (And.intro (by kernel_rfl) (And.intro rfl (Nat.le_of_ble_eq_true rfl))) ?_; conv => whnf)
        | (refine And.intro (And.intro (by kernel_rfl) (by kernel_rfl)) ?_; conv => whnf)
        | (refine And.intro (by kernel_rfl) ?_; conv => whnf)
        | (refine aIf_tt (by assumption) ?_; conv => whnf)
        | (refine aIf_ff (by assumption) ?_; conv => whnf)
        | refine aIf_eqt ?_
        | refine aIf_eqf ?_
        | refine aIf_not ?_
        | (refine aIf_bself ?_; conv => whnf)
        | (refine aIf_beself ?_; conv => whnf)
        | (refine aIf_iself ?_; conv => whnf)
        | (refine aIf_decself ?_; conv => whnf)
        | (refine aIf_dec (fun _ => ?_) (fun _ => ?_) <;> conv => whnf)
        | (refine aIf_beq (fun _ => ?_) (fun _ => ?_) <;> conv => whnf)
        | (refine aIf_bne (fun _ => ?_) (fun _ => ?_) <;> conv => whnf)
        | (refine aIf_bbne (fun _ => ?_) (fun _ => ?_) <;> conv => whnf)
        | (refine aIf_bbeq (fun _ => ?_) (fun _ => ?_) <;> conv => whnf)
        | (refine aIf_in (fun _ => ?_) (fun _ => ?_) <;> conv => whnf))
      refine retTB (hM := turnM_f1 ht) ?_ ?_ ?_ ?_ ?_
      all_goals (first | exact rfl | decide | (simp; done))
    · conv => whnf
      repeat' (first
        | (refine aIf_t ?_; conv => whnf)
        | (refine aIf_f ?_; conv => whnf)
        | (refine fun (_ : _ ≤ maxLen) => ?_; conv => whnf)
        | (refine get_nat (by omega) ?_; conv => whnf)
        | (refine get_int (by omega) ?_; conv => whnf)
        | (refine get_nat0 (by omega) ?_; conv => whnf)
        | (refine get_int0 (by omega) ?_; conv => whnf)
        | (refine aGet_in rfl ?_; conv => whnf)
        | (refine And.intro (And.intro rfl (And.intro (by kernel_rfl) (And.intro rfl (by kernel_rfl)))) (And.intro (And.intro (by omega) (And.intro (bytes_le (b := 8) rfl (by omega)) (by omega))) ?_); conv => whnf)
        | (refine And.intro (by omega) ?_; conv => whnf)
        | (refine And.intro (by rw [List.length_map]; omega) ?_; conv => whnf)
        | (refine And.intro rfl (And.intro (List.cons_ne_nil _ _) ?_); conv => whnf)
        | (refine And.intro (Nat.le_of_ble_eq_true rfl) ?_; conv => whnf)
        | (refine callG_t ?_; conv => whnf)
        | (refine readBy_call (by assumption) (by first | rfl | omega) (by first | rfl | omega) (by first | rfl | omega) ?_; conv => whnf)
        | (refine iTensorOk_call ?_; conv => whnf)
        | (refine And.intro (pureL_ints _ _) ?_; conv => whnf)
        | (refine cut_ints ?_; conv => whnf)
        | (refine cut_marks ?_; conv => whnf)
        | (refine cut_all rfl (scalL_ints _ _) ?_; conv => whnf)
        | (refine cut_all (by simp only [List.length_map]; omega) (scalL_ints _ _) ?_; conv => whnf)
        | (refine append_int rfl rfl (by first | rfl | (simp only [List.length_take, turned_length]; omega)) (by omega) (Nat.le_of_ble_eq_true rfl) ?_; conv => whnf)
        | (refine append_int3 rfl rfl rfl rfl (by omega) (Nat.le_of_ble_eq_true rfl) ?_; conv => whnf)
        | (refine iTurnShape_call (by omega) ?_; conv => whnf)
        | (refine iStridesOf_call (by omega) ?_; conv => whnf)
        | (refine And.intro rfl (And.intro rfl (And.intro (by first | omega | (rw [List.length_map]; omega)) ?_)); conv => whnf)
        | (refine set_nat ?_ (by omega); conv => whnf)
        | (refine set_int ?_ (by omega); conv => whnf)
        | (refine set_bool ?_ (by omega); conv => whnf)
        | (refine set_force ?_; conv => whnf)
        | (refine get_bool0 (by omega) ?_; conv => whnf)
        | (refine And.intro (And.intro rfl (And.intro (by kernel_rfl) (And.intro rfl (by kernel_rfl)))) (And.intro (And.intro (by omega) (And.intro (bytes_le (b := 1) rfl (by omega)) (by omega))) ?_); conv => whnf)
        | (refine And.intro (And.intro (by kernel_rfl) (And.intro rfl (Nat.le_of_ble_eq_true rfl))) ?_; conv => whnf)
        | (refine And.intro (And.intro (by kernel_rfl) (by kernel_rfl)) ?_; conv => whnf)
        | (refine And.intro (by kernel_rfl) ?_; conv => whnf)
        | (refine aIf_tt (by assumption) ?_; conv => whnf)
        | (refine aIf_ff (by assumption) ?_; conv => whnf)
        | refine aIf_eqt ?_
        | refine aIf_eqf ?_
        | refine aIf_not ?_
        | (refine aIf_bself ?_; conv => whnf)
        | (refine aIf_beself ?_; conv => whnf)
        | (refine aIf_iself ?_; conv => whnf)
        | (refine aIf_decself ?_; conv => whnf)
        | (refine aIf_dec (fun _ => ?_) (fun _ => ?_) <;> conv => whnf)
        | (refine aIf_beq (fun _ => ?_) (fun _ => ?_) <;> conv => whnf)
        | (refine aIf_bne (fun _ => ?_) (fun _ => ?_) <;> conv => whnf)
        | (refine aIf_bbne (fun _ => ?_) (fun _ => ?_) <;> conv => whnf)
        | (refine aIf_bbeq (fun _ => ?_) (fun _ => ?_) <;> conv => whnf)
        | (refine aIf_in (fun _ => ?_) (fun _ => ?_) <;> conv => whnf))
      refine retTB (hM := turnM_f1 ht) ?_ ?_ ?_ ?_ ?_
      all_goals (first | exact rfl | decide | (simp; done))
end Go.Proofs.Ytgoolnkgcdmhmaa
