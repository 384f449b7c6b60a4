/- PlaceAt. -/
import Derived.Test.YtegoncendpboiaaP4
namespace Go.Proofs.Ytegoncendpboiaa
set_option maxRecDepth 20000
open Go.RowKit Go.Am
attribute [local irreducible] aPlan aGet aIf aLoop aCall RetB NextB CallB CallG aCut aSet aAppend

theorem cnt_bound {xs : List Int} (h : shapeOk xs = true) : ∀ k, k ≤ xs.length → 1 ≤ cntTo xs k ∧ cntTo xs k ≤ 4 ^ k
  | 0, _ => ⟨Int.le_refl _, Int.le_refl _⟩
  | k + 1, hk => by
    obtain ⟨h1, h2⟩ := cnt_bound h k (by omega)
    obtain ⟨h3, h4⟩ := (shapeOk_iff xs).1 h
    obtain ⟨h5, h6⟩ := (okSize_iff _).1 (h4 k (by omega))
    have hp : (4 : Int) ^ k ≤ 16 := by
      have : k ≤ 2 := by omega
      rcases k with _ | _ | _ | k
      · decide
      · decide
      · decide
      · omega
    have a1 : 1 * 1 ≤ cntTo xs k * xs.getD k 0 := Int.mul_le_mul h1 h5 (by decide) (by omega)
    have a2 : cntTo xs k * xs.getD k 0 ≤ 4 ^ k * 4 := Int.mul_le_mul h2 h6 (by omega) (by omega)
    have a3 : cntTo xs (k + 1) = cntTo xs k * xs.getD k 0 := by
      show IntKind.i64.wrap _ = _
      exact IntWalk.i64_in _ (by omega)
    rw [a3, Int.pow_succ]
    exact ⟨by omega, a2⟩

/-- The quotients from the last axis on. -/
def quoT (zs : List Int) (i : Int) : Nat → Int
  | 0 => i
  | m + 1 => IntKind.i64.wrap ((quoT zs i m).tdiv (zs.getD (zs.length - 1 - m) 0))
theorem quoT_next {zs : List Int} {i : Int} {q : Nat} (h : q + 1 ≤ zs.length) : quoT zs i (zs.length - q) = IntKind.i64.wrap ((quoT zs i (zs.length - (q + 1))).tdiv (zs.getD q 0)) := by
  have e : zs.length - q = (zs.length - (q + 1)) + 1 := by omega
  rw [e, quoT]
  congr 3; omega
def places (zs : List Int) (i : Int) : List Int := (List.range zs.length).map fun j => (quoT zs i (zs.length - 1 - j)).tmod (zs.getD j 0)
theorem places_length (zs : List Int) (i : Int) : (places zs i).length = zs.length := by simp [places]
theorem places_getD {zs : List Int} {i : Int} {j : Nat} (h : j < zs.length) : (places zs i).getD j 0 = (quoT zs i (zs.length - 1 - j)).tmod (zs.getD j 0) := by
  simp [places, List.getD, List.getElem?_map, List.getElem?_range h]
def plInv (zs : List Int) (i : Int) (x : Nat × List Int) : Prop := x.1 ≤ zs.length ∧ x.2.length = zs.length ∧ ∀ j, x.1 ≤ j → j < zs.length → x.2.getD j 0 = (quoT zs i (zs.length - 1 - j)).tmod (zs.getD j 0)
theorem plInv_0 (zs : List Int) (i : Int) : plInv zs i (zs.length, List.replicate zs.length 0) := ⟨Nat.le_refl _, by simp, fun j h1 h2 => by omega⟩
theorem plInv_next {zs : List Int} {i : Int} {q : Nat} {ws : List Int} (h : plInv zs i (q + 1, ws)) : plInv zs i (q, ws.set q ((quoT zs i (zs.length - (q + 1))).tmod (zs.getD q 0))) := by
  obtain ⟨h1, h2, h3⟩ := h
  have h1 : q + 1 ≤ zs.length := h1
  have h2 : ws.length = zs.length := h2
  have h3 : ∀ j, q + 1 ≤ j → j < zs.length → ws.getD j 0 = (quoT zs i (zs.length - 1 - j)).tmod (zs.getD j 0) := h3
  refine ⟨(show q ≤ zs.length by omega), by simpa using h2, fun j hj hl => ?_⟩
  show (ws.set q ((quoT zs i (zs.length - (q + 1))).tmod (zs.getD q 0))).getD j 0 = _
  rw [getD_set (by omega)]
  split
  · rename_i e; subst e
    congr 2; omega
  · have hj : q ≤ j := hj
    exact h3 j (by omega) hl
theorem plInv_end {zs ws : List Int} {i : Int} (h : plInv zs i (0, ws)) : ws = places zs i := getD_ext (by rw [places_length]; exact h.2.1) fun j hj => by
  rw [places_length] at hj
  rw [places_getD hj]; exact h.2.2 j (Nat.zero_le _) hj

set_option maxRecDepth 10000 in
theorem l1Place_sound : Sound Try.prog 123 (fnL (ι := Nat × List Int × Int) 3 (fun | (c, zs, i) => [.sl c zs.length (zs.map (.int .i64)), .int .i64 i]) (fun | (_, zs, _) => shapeOk zs = true) (fun | (_, zs, i) => places zs i)) := by
  refine sound_of Try.func123 rfl (enters_of Try.func123 (by kernel_rfl) (by kernel_rfl)) ?_
  rintro ⟨c, zs, i⟩ hpre
  have h3 := (shapeOk_iff zs).1 hpre
  conv => whnf
  repeat' (first
    | (refine aIf_t ?_; conv => whnf)
    | (refine aIf_f ?_; conv => whnf)
    | (refine fun (_ : _ ≤ maxLen) => ?_; conv => whnf)
    | (refine get_nat0 (by omega) ?_; conv => whnf)
    | (refine get_int0 (by omega) ?_; conv => whnf)
    | (refine get_nat (by omega) ?_; conv => whnf)
    | (refine get_int (by omega) ?_; conv => whnf)
    | (refine aGet_in rfl ?_; conv => whnf)
    | (refine And.intro (And.intro (Int.le_refl _) (And.intro (by kernel_rfl) (And.intro rfl (by kernel_rfl)))) (And.intro (And.intro (by omega) (And.intro (bytes_le (b := 8) rfl (by omega)) (by omega))) ?_); conv => whnf)
    | (refine And.intro (by omega) ?_; conv => whnf)
    | (refine load_same ?_; conv => whnf)
    | (refine And.intro (by rw [List.length_map]; omega) ?_; conv => whnf)
    | (refine And.intro rfl (And.intro (List.cons_ne_nil _ _) ?_); conv => whnf)
    | (refine And.intro (Nat.le_of_ble_eq_true rfl) ?_; conv => whnf)
    | (refine callG_t ?_; conv => whnf)
    | (refine And.intro (And.intro (Int.le_refl _) (And.intro (by kernel_rfl) (And.intro rfl (by kernel_rfl)))) (And.intro (And.intro (by omega) (And.intro (bytes_le (b := 24) rfl (by omega)) (by omega))) ?_); conv => whnf)
    | (refine And.intro (And.intro (Int.le_refl _) (And.intro (by kernel_rfl) (And.intro rfl (by kernel_rfl)))) (And.intro (And.intro (by omega) (And.intro (bytes_le (b := 48) rfl (by omega)) (by omega))) ?_); conv => whnf)
    | (refine takeN_in ?_; conv => whnf)
    | (refine And.intro (pureL_ints _ _) ?_; conv => whnf)
    | (refine cut_ints ?_; conv => whnf)
    | (refine cut_all rfl (scalL_ints _ _) ?_; conv => whnf)
    | (refine cut_all (by simp only [List.length_map]; omega) (scalL_ints _ _) ?_; conv => whnf)
    | (refine And.intro rfl (And.intro rfl (And.intro (by first | omega | (rw [List.length_map]; omega)) ?_)); conv => whnf)
    | (refine set_nat ?_ (by omega); conv => whnf)
    | (refine set_int ?_ (by omega); conv => whnf)
    | (refine set_bool ?_ (by omega); conv => whnf)
    | (refine set_force ?_; conv => whnf)
    | (refine get_bool0 (by omega) ?_; conv => whnf)
    | (refine And.intro (And.intro (Int.le_refl _) (And.intro (by kernel_rfl) (And.intro rfl (by kernel_rfl)))) (And.intro (And.intro (by omega) (And.intro (bytes_le (b := 1) rfl (by omega)) (by omega))) ?_); conv => whnf)
    | (refine And.intro (And.intro (by kernel_rfl) (And.intro rfl (Nat.le_of_ble_eq_true rfl))) ?_; conv => whnf)
    | (refine And.intro (And.intro (by kernel_rfl) (by kernel_rfl)) ?_; conv => whnf)
    | (refine And.intro (by kernel_rfl) ?_; conv => whnf)
    | (refine aIf_tt (by assumption) ?_; conv => whnf)
    | (refine aIf_ff (by assumption) ?_; conv => whnf)
    | refine aIf_eqt ?_
    | refine aIf_eqf ?_
    | refine aIf_not ?_
    | (refine aIf_bself ?_; conv => whnf)
    | (refine aIf_beself ?_; conv => whnf)
    | (refine aIf_iself ?_; conv => whnf)
    | (refine aIf_decself ?_; conv => whnf)
    | (refine aIf_dec (fun _ => ?_) (fun _ => ?_) <;> conv => whnf)
    | (refine aIf_beq (fun _ => ?_) (fun _ => ?_) <;> conv => whnf)
    | (refine aIf_bne (fun _ => ?_) (fun _ => ?_) <;> conv => whnf)
    | (refine aIf_bbne (fun _ => ?_) (fun _ => ?_) <;> conv => whnf)
    | (refine aIf_bbeq (fun _ => ?_) (fun _ => ?_) <;> conv => whnf)
    | (refine aIf_in (fun _ => ?_) (fun _ => ?_) <;> conv => whnf))
  refine loop_in (ι := Nat × List Int) (fun | (q, ws) => ⟨[.sl c zs.length (zs.map (.int .i64)), .int .i64 (quoT zs i (zs.length - q)), .un, .un, .un, .ref 1 2 0 zs.length, .int .i64 (q - 1), .un, .un, .un, .un, .un, .un, .un, .un, .un, .un, .un, .un, .un, .un, .un, .un, .un, .un, .un, .un, .un, .un, .un, .un, .un, .un], [⟨1, 3, 1, []⟩, ⟨2, 3, 1, ws.map (.int .i64)⟩], 3, 0⟩)
    (plInv zs i) (fun x => x.1) (zs.length, List.replicate zs.length 0) (plInv_0 zs i) ?_ ?_
  · have e0 : i = quoT zs i (zs.length - zs.length) := by rw [Nat.sub_self]; rfl
    repeat' (first
      | exact trivial
      | exact rfl
      | exact pureL_ints _ _
      | exact pureL_bools _
      | exact Or.inl (And.intro rfl rfl)
      | exact le_ints rfl
      | exact le_ints (rep_ints _ _)
      | exact le_bools rfl
      | exact le_bools (rep_bools _)
      | refine le_ints ?_
      | refine Or.inr ?_
      | refine And.intro ?_ ?_
      | exact Nat.le_of_ble_eq_true rfl
      | exact Nat.zero_le _
      | exact int_eq (by assumption)
      | exact int_eq (by omega)
      | exact int_eq (Int.add_zero _).symm
      | exact List.length_append
      | exact int_eq (by rw [IntWalk.i64_in _ (by omega)] <;> omega))
  · rintro ⟨q, ws⟩ hi
    have hq : q ≤ zs.length := hi.1
    have hl : ws.length = zs.length := hi.2.1
    by_cases h0 : q = 0
    · subst h0
      conv => whnf
      repeat' (first
        | (refine aIf_t ?_; conv => whnf)
        | (refine aIf_f ?_; conv => whnf)
        | (refine fun (_ : _ ≤ maxLen) => ?_; conv => whnf)
        | (refine get_nat0 (by omega) ?_; conv => whnf)
        | (refine get_int0 (by omega) ?_; conv => whnf)
        | (refine get_nat (by omega) ?_; conv => whnf)
        | (refine get_int (by omega) ?_; conv => whnf)
        | (refine aGet_in rfl ?_; conv => whnf)
        | (refine And.intro (And.intro (Int.le_refl _) (And.intro (by kernel_rfl) (And.intro rfl (by kernel_rfl)))) (And.intro (And.intro (by omega) (And.intro (bytes_le (b := 8) rfl (by omega)) (by omega))) ?_); conv => whnf)
        | (refine And.intro (by omega) ?_; conv => whnf)
        | (refine load_same ?_; conv => whnf)
        | (refine And.intro (by rw [List.length_map]; omega) ?_; conv => whnf)
        | (refine And.intro rfl (And.intro (List.cons_ne_nil _ _) ?_); conv => whnf)
        | (refine And.intro (Nat.le_of_ble_eq_true rfl) ?_; conv => whnf)
        | (refine callG_t ?_; conv => whnf)
        | (refine And.intro (And.intro (Int.le_refl _) (And.intro (by kernel_rfl) (And.intro rfl (by kernel_rfl)))) (And.intro (And.intro (by omega) (And.intro (bytes_le (b := 24) rfl (by omega)) (by omega))) ?_); conv => whnf)
        | (refine And.intro (And.intro (Int.le_refl _) (And.intro (by kernel_rfl) (And.intro rfl (by kernel_rfl)))) (And.intro (And.intro (by omega) (And.intro (bytes_le (b := 48) rfl (by omega)) (by omega))) ?_); conv => whnf)
        | (refine takeN_in ?_; conv => whnf)
        | (refine And.intro (pureL_ints _ _) ?_; conv => whnf)
        | (refine cut_ints ?_; conv => whnf)
        | (refine cut_all rfl (scalL_ints _ _) ?_; conv => whnf)
        | (refine cut_all (by simp only [List.length_map]; omega) (scalL_ints _ _) ?_; conv => whnf)
        | (refine And.intro rfl (And.intro rfl (And.intro (by first | omega | (rw [List.length_map]; omega)) ?_)); conv => whnf)
        | (refine set_nat ?_ (by omega); conv => whnf)
        | (refine set_int ?_ (by omega); conv => whnf)
        | (refine set_bool ?_ (by omega); conv => whnf)
        | (refine set_force ?_; conv => whnf)
        | (refine get_bool0 (by omega) ?_; conv => whnf)
        | (refine And.intro (And.intro (Int.le_refl _) (And.intro (by kernel_rfl) (And.intro rfl (by kernel_rfl)))) (And.intro (And.intro (by omega) (And.intro (bytes_le (b := 1) rfl (by omega)) (by omega))) ?_); conv => whnf)
        | (refine And.intro (And.intro (by kernel_rfl) (And.intro rfl (Nat.le_of_ble_eq_true rfl))) ?_; conv => whnf)
        | (refine And.intro (And.intro (by kernel_rfl) (by kernel_rfl)) ?_; conv => whnf)
        | (refine And.intro (by kernel_rfl) ?_; conv => whnf)
        | (refine aIf_tt (by assumption) ?_; conv => whnf)
        | (refine aIf_ff (by assumption) ?_; conv => whnf)
        | refine aIf_eqt ?_
        | refine aIf_eqf ?_
        | refine aIf_not ?_
        | (refine aIf_bself ?_; conv => whnf)
        | (refine aIf_beself ?_; conv => whnf)
        | (refine aIf_iself ?_; conv => whnf)
        | (refine aIf_decself ?_; conv => whnf)
        | (refine aIf_dec (fun _ => ?_) (fun _ => ?_) <;> conv => whnf)
        | (refine aIf_beq (fun _ => ?_) (fun _ => ?_) <;> conv => whnf)
        | (refine aIf_bne (fun _ => ?_) (fun _ => ?_) <;> conv => whnf)
        | (refine aIf_bbne (fun _ => ?_) (fun _ => ?_) <;> conv => whnf)
        | (refine aIf_bbeq (fun _ => ?_) (fun _ => ?_) <;> conv => whnf)
        | (refine aIf_in (fun _ => ?_) (fun _ => ?_) <;> conv => whnf))
      all_goals (first
        | exact (by have e := plInv_end hi; subst e; exact retL rfl rfl rfl (places_length zs i).symm)
        | (exfalso; omega))
    · obtain ⟨q, rfl⟩ : ∃ q', q = q' + 1 := ⟨q - 1, by omega⟩
      have e1 : (((q + 1 : Nat) : Int) - 1).toNat = q := by omega
      have hz := (okSize_iff _).1 (h3.2 q (by omega))
      have hz' : 1 ≤ zs.getD (((q + 1 : Nat) : Int) - 1).toNat 0 ∧ zs.getD (((q + 1 : Nat) : Int) - 1).toNat 0 ≤ 4 := by rw [e1]; exact hz
      have e2 := quoT_next (zs := zs) (i := i) hq
      conv => whnf
      repeat' (first
        | (refine aIf_t ?_; conv => whnf)
        | (refine aIf_f ?_; conv => whnf)
        | (refine fun (_ : _ ≤ maxLen) => ?_; conv => whnf)
        | (refine get_nat0 (by omega) ?_; conv => whnf)
        | (refine get_int0 (by omega) ?_; conv => whnf)
        | (refine get_nat (by omega) ?_; conv => whnf)
        | (refine get_int (by omega) ?_; conv => whnf)
        | (refine aGet_in rfl ?_; conv => whnf)
        | (refine And.intro (And.intro (Int.le_refl _) (And.intro (by kernel_rfl) (And.intro rfl (by kernel_rfl)))) (And.intro (And.intro (by omega) (And.intro (bytes_le (b := 8) rfl (by omega)) (by omega))) ?_); conv => whnf)
        | (refine And.intro (by omega) ?_; conv => whnf)
        | (refine load_same ?_; conv => whnf)
        | (refine And.intro (by rw [List.length_map]; omega) ?_; conv => whnf)
        | (refine And.intro rfl (And.intro (List.cons_ne_nil _ _) ?_); conv => whnf)
        | (refine And.intro (Nat.le_of_ble_eq_true rfl) ?_; conv => whnf)
        | (refine callG_t ?_; conv => whnf)
        | (refine And.intro (And.intro (Int.le_refl _) (And.intro (by kernel_rfl) (And.intro rfl (by kernel_rfl)))) (And.intro (And.intro (by omega) (And.intro (bytes_le (b := 24) rfl (by omega)) (by omega))) ?_); conv => whnf)
        | (refine And.intro (And.intro (Int.le_refl _) (And.intro (by kernel_rfl) (And.intro rfl (by kernel_rfl)))) (And.intro (And.intro (by omega) (And.intro (bytes_le (b := 48) rfl (by omega)) (by omega))) ?_); conv => whnf)
        | (refine takeN_in ?_; conv => whnf)
        | (refine And.intro (pureL_ints _ _) ?_; conv => whnf)
        | (refine cut_ints ?_; conv => whnf)
        | (refine cut_all rfl (scalL_ints _ _) ?_; conv => whnf)
        | (refine cut_all (by simp only [List.length_map]; omega) (scalL_ints _ _) ?_; conv => whnf)
        | (refine And.intro rfl (And.intro rfl (And.intro (by first | omega | (rw [List.length_map]; omega)) ?_)); conv => whnf)
        | (refine set_nat ?_ (by omega); conv => whnf)
        | (refine set_int ?_ (by omega); conv => whnf)
        | (refine set_bool ?_ (by omega); conv => whnf)
        | (refine set_force ?_; conv => whnf)
        | (refine get_bool0 (by omega) ?_; conv => whnf)
        | (refine And.intro (And.intro (Int.le_refl _) (And.intro (by kernel_rfl) (And.intro rfl (by kernel_rfl)))) (And.intro (And.intro (by omega) (And.intro (bytes_le (b := 1) rfl (by omega)) (by omega))) ?_); conv => whnf)
        | (refine And.intro (And.intro (by kernel_rfl) (And.intro rfl (Nat.le_of_ble_eq_true rfl))) ?_; conv => whnf)
        | (refine And.intro (And.intro (by kernel_rfl) (by kernel_rfl)) ?_; conv => whnf)
        | (refine And.intro (by kernel_rfl) ?_; conv => whnf)
        | (refine aIf_tt (by assumption) ?_; conv => whnf)
        | (refine aIf_ff (by assumption) ?_; conv => whnf)
        | refine aIf_eqt ?_
        | refine aIf_eqf ?_
        | refine aIf_not ?_
        | (refine aIf_bself ?_; conv => whnf)
        | (refine aIf_beself ?_; conv => whnf)
        | (refine aIf_iself ?_; conv => whnf)
        | (refine aIf_decself ?_; conv => whnf)
        | (refine aIf_dec (fun _ => ?_) (fun _ => ?_) <;> conv => whnf)
        | (refine aIf_beq (fun _ => ?_) (fun _ => ?_) <;> conv => whnf)
        | (refine aIf_bne (fun _ => ?_) (fun _ => ?_) <;> conv => whnf)
        | (refine aIf_bbne (fun _ => ?_) (fun _ => ?_) <;> conv => whnf)
        | (refine aIf_bbeq (fun _ => ?_) (fun _ => ?_) <;> conv => whnf)
        | (refine aIf_in (fun _ => ?_) (fun _ => ?_) <;> conv => whnf))
      · rw [e1]
        refine next_in (q, ws.set q ((quoT zs i (zs.length - (q + 1))).tmod (zs.getD q 0))) (Nat.lt_succ_self _) (plInv_next hi) ?_
        rw [← e2]
        repeat' (first
          | exact trivial
          | exact rfl
          | exact pureL_ints _ _
          | exact pureL_bools _
          | exact Or.inl (And.intro rfl rfl)
          | exact le_ints rfl
          | exact le_ints (rep_ints _ _)
          | exact le_bools rfl
          | exact le_bools (rep_bools _)
          | refine le_ints ?_
          | refine Or.inr ?_
          | refine And.intro ?_ ?_
          | exact Nat.le_of_ble_eq_true rfl
          | exact Nat.zero_le _
          | exact int_eq (by assumption)
          | exact int_eq (by omega)
          | exact int_eq (Int.add_zero _).symm
          | exact List.length_append
          | exact int_eq (by rw [IntWalk.i64_in _ (by omega)] <;> omega))
      all_goals (exfalso; omega)

theorem l1Place_call {c : Nat} {zs : List Int} {i : Int} {env : List AV} {rows : List Row} {ctr low : Nat} {k : AV → St → Prop} (hpre : shapeOk zs = true) (hk : k (.ref rows.length ctr 0 (places zs i).length) ⟨env, rows ++ [⟨ctr, 3, 1, (places zs i).map (.int .i64)⟩], ctr + 1, low⟩) :
    CallB Try.prog 123 ⟨env, rows, ctr, low⟩ [.sl c zs.length (zs.map (.int .i64)), .int .i64 i] k := callL_in l1Place_sound (c, zs, i) hpre hk

/-- PlaceAt: a shape, and an index of it. -/
def paOk (zs : List Int) (i : Int) : Bool := shapeOk zs && decide (0 ≤ i ∧ i < cntTo zs zs.length)
def paL (zs : List Int) (i : Int) : List Int := if paOk zs i = true then places zs i else []
theorem pa_t {zs : List Int} {i : Int} (h : shapeOk zs = true) (h' : 0 ≤ i ∧ i < cntTo zs zs.length) : paL zs i = places zs i ∧ true = paOk zs i := by
  have e : paOk zs i = true := by unfold paOk; rw [h]; simpa using h'
  exact ⟨if_pos e, e.symm⟩
theorem pa_f {zs : List Int} {i : Int} (h : ¬ (shapeOk zs = true ∧ 0 ≤ i ∧ i < cntTo zs zs.length)) : paL zs i = [] ∧ false = paOk zs i := by
  have e : paOk zs i = false := by
    rw [← Bool.not_eq_true]; intro h'; apply h
    unfold paOk at h'; simpa [Bool.and_eq_true] using h'
  exact ⟨if_neg (by rw [e]; decide), e.symm⟩
theorem pa_le (zs : List Int) (i : Int) : (paL zs i).length ≤ zs.length := by
  unfold paL; split
  · exact Nat.le_of_eq (places_length _ _)
  · exact Nat.zero_le _
def sPlaceAt : CSpec := fnLB (ι := Nat × List Int × Int) 3 (fun | (c, zs, i) => [.sl c zs.length (zs.map (.int .i64)), .int .i64 i]) (fun | (_, zs, _) => zs.length ≤ 1048576) (fun | (_, zs, i) => paL zs i) (fun | (_, zs, i) => paOk zs i)
theorem pa_end {env : List AV} {rows : List Row} {ctr τ ver : Nat} {zs zs' : List Int} {i : Int} {b : Bool} {r : Row} {n : Nat} (e1 : paL zs i = zs' ∧ b = paOk zs i) (hr : rows[τ]? = some r) (hv : r.ver = ver) (e : r = ⟨ver, 3, 1, zs'.map (.int .i64)⟩) (hn : n = zs'.length) :
    RetB ⟨env, rows, ctr, 0⟩ [] (fun r ic news => r = .tup [.ref 0 0 0 (paL zs i).length, .bool (paOk zs i)] ∧ ic = [] ∧ news = [⟨0, 3, 1, (paL zs i).map (.int .i64)⟩]) (.tup [.ref τ ver 0 n, .bool b]) := by
  rw [e1.1]; exact retLB hr hv e hn e1.2

set_option maxRecDepth 10000 in
theorem iPlaceAt_sound : Sound Try.prog 149 sPlaceAt := by
  refine sound_of Try.func149 rfl (enters_of Try.func149 (by kernel_rfl) (by kernel_rfl)) ?_
  rintro ⟨c, zs, i⟩ hpre
  have hpre : zs.length ≤ 1048576 := hpre
  have hcnt : shapeOk zs = true → countOf zs = cntTo zs zs.length := fun h => if_pos h
  have hcnt' : ¬ shapeOk zs = true → countOf zs = -1 := fun h => if_neg h
  conv => whnf
  repeat' (first
    | (refine aIf_t ?_; conv => whnf)
    | (refine aIf_f ?_; conv => whnf)
    | (refine fun (_ : _ ≤ maxLen) => ?_; conv => whnf)
    | (refine get_nat0 (by omega) ?_; conv => whnf)
    | (refine get_int0 (by omega) ?_; conv => whnf)
    | (refine get_nat (by omega) ?_; conv => whnf)
    | (refine get_int (by omega) ?_; conv => whnf)
    | (refine aGet_in rfl ?_; conv => whnf)
    | (refine And.intro (And.intro (Int.le_refl _) (And.intro (by kernel_rfl) (And.intro rfl (by kernel_rfl)))) (And.intro (And.intro (by omega) (And.intro (bytes_le (b := 8) rfl (by omega)) (by omega))) ?_); conv => whnf)
    | (refine And.intro (by omega) ?_; conv => whnf)
    | (refine load_same ?_; conv => whnf)
    | (refine And.intro (by rw [List.length_map]; omega) ?_; conv => whnf)
    | (refine And.intro rfl (And.intro (List.cons_ne_nil _ _) ?_); conv => whnf)
    | (refine And.intro (Nat.le_of_ble_eq_true rfl) ?_; conv => whnf)
    | (refine callG_t ?_; conv => whnf)
    | (refine And.intro (And.intro (Int.le_refl _) (And.intro (by kernel_rfl) (And.intro rfl (by kernel_rfl)))) (And.intro (And.intro (by omega) (And.intro (bytes_le (b := 24) rfl (by omega)) (by omega))) ?_); conv => whnf)
    | (refine And.intro (And.intro (Int.le_refl _) (And.intro (by kernel_rfl) (And.intro rfl (by kernel_rfl)))) (And.intro (And.intro (by omega) (And.intro (bytes_le (b := 48) rfl (by omega)) (by omega))) ?_); conv => whnf)
    | (refine takeN_in ?_; conv => whnf)
    | (refine And.intro (pureL_ints _ _) ?_; conv => whnf)
    | (refine cut_ints ?_; conv => whnf)
    | (refine cut_all rfl (scalL_ints _ _) ?_; conv => whnf)
    | (refine cut_all (by simp only [List.length_map]; omega) (scalL_ints _ _) ?_; conv => whnf)
    | (refine iCountOf_call ?_; conv => whnf)
    | (refine And.intro rfl (And.intro rfl (And.intro (by first | omega | (rw [List.length_map]; omega)) ?_)); conv => whnf)
    | (refine set_nat ?_ (by omega); conv => whnf)
    | (refine set_int ?_ (by omega); conv => whnf)
    | (refine set_bool ?_ (by omega); conv => whnf)
    | (refine set_force ?_; conv => whnf)
    | (refine get_bool0 (by omega) ?_; conv => whnf)
    | (refine And.intro (And.intro (Int.le_refl _) (And.intro (by kernel_rfl) (And.intro rfl (by kernel_rfl)))) (And.intro (And.intro (by omega) (And.intro (bytes_le (b := 1) rfl (by omega)) (by omega))) ?_); conv => whnf)
    | (refine And.intro (And.intro (by kernel_rfl) (And.intro rfl (Nat.le_of_ble_eq_true rfl))) ?_; conv => whnf)
    | (refine And.intro (And.intro (by kernel_rfl) (by kernel_rfl)) ?_; conv => whnf)
    | (refine And.intro (by kernel_rfl) ?_; conv => whnf)
    | (refine aIf_tt (by assumption) ?_; conv => whnf)
    | (refine aIf_ff (by assumption) ?_; conv => whnf)
    | refine aIf_eqt ?_
    | refine aIf_eqf ?_
    | refine aIf_not ?_
    | (refine aIf_bself ?_; conv => whnf)
    | (refine aIf_beself ?_; conv => whnf)
    | (refine aIf_iself ?_; conv => whnf)
    | (refine aIf_decself ?_; conv => whnf)
    | (refine aIf_dec (fun _ => ?_) (fun _ => ?_) <;> conv => whnf)
    | (refine aIf_beq (fun _ => ?_) (fun _ => ?_) <;> conv => whnf)
    | (refine aIf_bne (fun _ => ?_) (fun _ => ?_) <;> conv => whnf)
    | (refine aIf_bbne (fun _ => ?_) (fun _ => ?_) <;> conv => whnf)
    | (refine aIf_bbeq (fun _ => ?_) (fun _ => ?_) <;> conv => whnf)
    | (refine aIf_in (fun _ => ?_) (fun _ => ?_) <;> conv => whnf))
  · exact pa_end (pa_f (by omega)) rfl rfl rfl rfl
  · exact pa_end (pa_f (fun h => by have := hcnt h.1; omega)) rfl rfl rfl rfl
  · have hs : shapeOk zs = true := by
      apply Classical.byContradiction
      intro h
      have := hcnt' h
      omega
    have h3 := (shapeOk_iff zs).1 hs
    have hi' : 0 ≤ i ∧ i < cntTo zs zs.length := by have := hcnt hs; omega
    refine loop_in (ι := Nat × List Int) (fun | (q, ws) => ⟨[.sl c zs.length (zs.map (.int .i64)), .int .i64 (quoT zs i (zs.length - q)), .un, .un, .un, .un, .ref 1 3 0 zs.length, .int .i64 (q - 1), .un, .un, .un, .un, .un, .un, .un, .un, .un, .un, .un, .un, .un, .un, .un, .un, .un, .un, .un, .un, .un, .un, .un, .un, .un, .un, .un, .un, .un, .un, .un, .un, .un, .un], [⟨1, 3, 1, []⟩, ⟨3, 3, 1, ws.map (.int .i64)⟩], 4, 0⟩)
      (plInv zs i) (fun x => x.1) (zs.length, List.replicate zs.length 0) (plInv_0 zs i) ?_ ?_
    · have e0 : i = quoT zs i (zs.length - zs.length) := by rw [Nat.sub_self]; rfl
      repeat' (first
        | exact trivial
        | exact rfl
        | exact pureL_ints _ _
        | exact pureL_bools _
        | exact Or.inl (And.intro rfl rfl)
        | exact le_ints rfl
        | exact le_ints (rep_ints _ _)
        | exact le_bools rfl
        | exact le_bools (rep_bools _)
        | refine le_ints ?_
        | refine Or.inr ?_
        | refine And.intro ?_ ?_
        | exact Nat.le_of_ble_eq_true rfl
        | exact Nat.zero_le _
        | exact int_eq (by assumption)
        | exact int_eq (by omega)
        | exact int_eq (Int.add_zero _).symm
        | exact List.length_append
        | exact int_eq (by rw [IntWalk.i64_in _ (by omega)] <;> omega))
    · rintro ⟨q, ws⟩ hi
      have hq : q ≤ zs.length := hi.1
      have hl : ws.length = zs.length := hi.2.1
      by_cases h0 : q = 0
      · subst h0
        conv => whnf
        repeat' (first
          | (refine aIf_t ?_; conv => whnf)
          | (refine aIf_f ?_; conv => whnf)
          | (refine fun (_ : _ ≤ maxLen) => ?_; conv => whnf)
          | (refine get_nat0 (by omega) ?_; conv => whnf)
          | (refine get_int0 (by omega) ?_; conv => whnf)
          | (refine get_nat (by omega) ?_; conv => whnf)
          | (refine get_int (by omega) ?_; conv => whnf)
          | (refine aGet_in rfl ?_; conv => whnf)
          | (refine And.intro (And.intro (Int.le_refl _) (And.intro (by kernel_rfl) (And.intro rfl (by kernel_rfl)))) (And.intro (And.intro (by omega) (And.intro (bytes_le (b := 8) rfl (by omega)) (by omega))) ?_); conv => whnf)
          | (refine And.intro (by omega) ?_; conv => whnf)
          | (refine load_same ?_; conv => whnf)
          | (refine And.intro (by rw [List.length_map]; omega) ?_; conv => whnf)
          | (refine And.intro rfl (And.intro (List.cons_ne_nil _ _) ?_); conv => whnf)
          | (refine And.intro (Nat.le_of_ble_eq_true rfl) ?_; conv => whnf)
          | (refine callG_t ?_; conv => whnf)
          | (refine And.intro (And.intro (Int.le_refl _) (And.intro (by kernel_rfl) (And.intro rfl (by kernel_rfl)))) (And.intro (And.intro (by omega) (And.intro (bytes_le (b := 24) rfl (by omega)) (by omega))) ?_); conv => whnf)
          | (refine And.intro (And.intro (Int.le_refl _) (And.intro (by kernel_rfl) (And.intro rfl (by kernel_rfl)))) (And.intro (And.intro (by omega) (And.intro (bytes_le (b := 48) rfl (by omega)) (by omega))) ?_); conv => whnf)
          | (refine takeN_in ?_; conv => whnf)
          | (refine And.intro (pureL_ints _ _) ?_; conv => whnf)
          | (refine cut_ints ?_; conv => whnf)
          | (refine cut_all rfl (scalL_ints _ _) ?_; conv => whnf)
          | (refine cut_all (by simp only [List.length_map]; omega) (scalL_ints _ _) ?_; conv => whnf)
          | (refine iCountOf_call ?_; conv => whnf)
          | (refine And.intro rfl (And.intro rfl (And.intro (by first | omega | (rw [List.length_map]; omega)) ?_)); conv => whnf)
          | (refine set_nat ?_ (by omega); conv => whnf)
          | (refine set_int ?_ (by omega); conv => whnf)
          | (refine set_bool ?_ (by omega); conv => whnf)
          | (refine set_force ?_; conv => whnf)
          | (refine get_bool0 (by omega) ?_; conv => whnf)
          | (refine And.intro (And.intro (Int.le_refl _) (And.intro (by kernel_rfl) (And.intro rfl (by kernel_rfl)))) (And.intro (And.intro (by omega) (And.intro (bytes_le (b := 1) rfl (by omega)) (by omega))) ?_); conv => whnf)
          | (refine And.intro (And.intro (by kernel_rfl) (And.intro rfl (Nat.le_of_ble_eq_true rfl))) ?_; conv => whnf)
          | (refine And.intro (And.intro (by kernel_rfl) (by kernel_rfl)) ?_; conv => whnf)
          | (refine And.intro (by kernel_rfl) ?_; conv => whnf)
          | (refine aIf_tt (by assumption) ?_; conv => whnf)
          | (refine aIf_ff (by assumption) ?_; conv => whnf)
          | refine aIf_eqt ?_
          | refine aIf_eqf ?_
          | refine aIf_not ?_
          | (refine aIf_bself ?_; conv => whnf)
          | (refine aIf_beself ?_; conv => whnf)
          | (refine aIf_iself ?_; conv => whnf)
          | (refine aIf_decself ?_; conv => whnf)
          | (refine aIf_dec (fun _ => ?_) (fun _ => ?_) <;> conv => whnf)
          | (refine aIf_beq (fun _ => ?_) (fun _ => ?_) <;> conv => whnf)
          | (refine aIf_bne (fun _ => ?_) (fun _ => ?_) <;> conv => whnf)
          | (refine aIf_bbne (fun _ => ?_) (fun _ => ?_) <;> conv => whnf)
          | (refine aIf_bbeq (fun _ => ?_) (fun _ => ?_) <;> conv => whnf)
          | (refine aIf_in (fun _ => ?_) (fun _ => ?_) <;> conv => whnf))
        all_goals (first
          | exact (by have e := plInv_end hi; subst e; exact pa_end (pa_t hs hi') rfl rfl rfl (places_length zs i).symm)
          | (exfalso; omega))
      · obtain ⟨q, rfl⟩ : ∃ q', q = q' + 1 := ⟨q - 1, by omega⟩
        have e1 : (((q + 1 : Nat) : Int) - 1).toNat = q := by omega
        have hz := (okSize_iff _).1 (h3.2 q (by omega))
        have hz' : 1 ≤ zs.getD (((q + 1 : Nat) : Int) - 1).toNat 0 ∧ zs.getD (((q + 1 : Nat) : Int) - 1).toNat 0 ≤ 4 := by rw [e1]; exact hz
        have e2 := quoT_next (zs := zs) (i := i) hq
        conv => whnf
        repeat' (first
          | (refine aIf_t ?_; conv => whnf)
          | (refine aIf_f ?_; conv => whnf)
          | (refine fun (_ : _ ≤ maxLen) => ?_; conv => whnf)
          | (refine get_nat0 (by omega) ?_; conv => whnf)
          | (refine get_int0 (by omega) ?_; conv => whnf)
          | (refine get_nat (by omega) ?_; conv => whnf)
          | (refine get_int (by omega) ?_; conv => whnf)
          | (refine aGet_in rfl ?_; conv => whnf)
          | (refine And.intro (And.intro (Int.le_refl _) (And.intro (by kernel_rfl) (And.intro rfl (by kernel_rfl)))) (And.intro (And.intro (by omega) (And.intro (bytes_le (b := 8) rfl (by omega)) (by omega))) ?_); conv => whnf)
          | (refine And.intro (by omega) ?_; conv => whnf)
          | (refine load_same ?_; conv => whnf)
          | (refine And.intro (by rw [List.length_map]; omega) ?_; conv => whnf)
          | (refine And.intro rfl (And.intro (List.cons_ne_nil _ _) ?_); conv => whnf)
          | (refine And.intro (Nat.le_of_ble_eq_true rfl) ?_; conv => whnf)
          | (refine callG_t ?_; conv => whnf)
          | (refine And.intro (And.intro (Int.le_refl _) (And.intro (by kernel_rfl) (And.intro rfl (by kernel_rfl)))) (And.intro (And.intro (by omega) (And.intro (bytes_le (b := 24) rfl (by omega)) (by omega))) ?_); conv => whnf)
          | (refine And.intro (And.intro (Int.le_refl _) (And.intro (by kernel_rfl) (And.intro rfl (by kernel_rfl)))) (And.intro (And.intro (by omega) (And.intro (bytes_le (b := 48) rfl (by omega)) (by omega))) ?_); conv => whnf)
          | (refine takeN_in ?_; conv => whnf)
          | (refine And.intro (pureL_ints _ _) ?_; conv => whnf)
          | (refine cut_ints ?_; conv => whnf)
          | (refine cut_all rfl (scalL_ints _ _) ?_; conv => whnf)
          | (refine cut_all (by simp only [List.length_map]; omega) (scalL_ints _ _) ?_; conv => whnf)
          | (refine iCountOf_call ?_; conv => whnf)
          | (refine And.intro rfl (And.intro rfl (And.intro (by first | omega | (rw [List.length_map]; omega)) ?_)); conv => whnf)
          | (refine set_nat ?_ (by omega); conv => whnf)
          | (refine set_int ?_ (by omega); conv => whnf)
          | (refine set_bool ?_ (by omega); conv => whnf)
          | (refine set_force ?_; conv => whnf)
          | (refine get_bool0 (by omega) ?_; conv => whnf)
          | (refine And.intro (And.intro (Int.le_refl _) (And.intro (by kernel_rfl) (And.intro rfl (by kernel_rfl)))) (And.intro (And.intro (by omega) (And.intro (bytes_le (b := 1) rfl (by omega)) (by omega))) ?_); conv => whnf)
          | (refine And.intro (And.intro (by kernel_rfl) (And.intro rfl (Nat.le_of_ble_eq_true rfl))) ?_; conv => whnf)
          | (refine And.intro (And.intro (by kernel_rfl) (by kernel_rfl)) ?_; conv => whnf)
          | (refine And.intro (by kernel_rfl) ?_; conv => whnf)
          | (refine aIf_tt (by assumption) ?_; conv => whnf)
          | (refine aIf_ff (by assumption) ?_; conv => whnf)
          | refine aIf_eqt ?_
          | refine aIf_eqf ?_
          | refine aIf_not ?_
          | (refine aIf_bself ?_; conv => whnf)
          | (refine aIf_beself ?_; conv => whnf)
          | (refine aIf_iself ?_; conv => whnf)
          | (refine aIf_decself ?_; conv => whnf)
          | (refine aIf_dec (fun _ => ?_) (fun _ => ?_) <;> conv => whnf)
          | (refine aIf_beq (fun _ => ?_) (fun _ => ?_) <;> conv => whnf)
          | (refine aIf_bne (fun _ => ?_) (fun _ => ?_) <;> conv => whnf)
          | (refine aIf_bbne (fun _ => ?_) (fun _ => ?_) <;> conv => whnf)
          | (refine aIf_bbeq (fun _ => ?_) (fun _ => ?_) <;> conv => whnf)
          | (refine aIf_in (fun _ => ?_) (fun _ => ?_) <;> conv => whnf))
        · rw [e1]
          refine next_in (q, ws.set q ((quoT zs i (zs.length - (q + 1))).tmod (zs.getD q 0))) (Nat.lt_succ_self _) (plInv_next hi) ?_
          rw [← e2]
          repeat' (first
            | exact trivial
            | exact rfl
            | exact pureL_ints _ _
            | exact pureL_bools _
            | exact Or.inl (And.intro rfl rfl)
            | exact le_ints rfl
            | exact le_ints (rep_ints _ _)
            | exact le_bools rfl
            | exact le_bools (rep_bools _)
            | refine le_ints ?_
            | refine Or.inr ?_
            | refine And.intro ?_ ?_
            | exact Nat.le_of_ble_eq_true rfl
            | exact Nat.zero_le _
            | exact int_eq (by assumption)
            | exact int_eq (by omega)
            | exact int_eq (Int.add_zero _).symm
            | exact List.length_append
            | exact int_eq (by rw [IntWalk.i64_in _ (by omega)] <;> omega))
        all_goals (exfalso; omega)
theorem iPlaceAt_call {c : Nat} {zs : List Int} {i : Int} {env : List AV} {rows : List Row} {ctr low : Nat} {k : AV → St → Prop} (hpre : zs.length ≤ 1048576) (hk : k (.tup [.ref rows.length ctr 0 (paL zs i).length, .bool (paOk zs i)]) ⟨env, rows ++ [⟨ctr, 3, 1, (paL zs i).map (.int .i64)⟩], ctr + 1, low⟩) :
    CallB Try.prog 149 ⟨env, rows, ctr, low⟩ [.sl c zs.length (zs.map (.int .i64)), .int .i64 i] k := callLB_in iPlaceAt_sound (c, zs, i) hpre hk
end Go.Proofs.Ytegoncendpboiaa
